/-
  The walk of the program that tells the surfaces of a covering. The walk of the program that tells the surfaces of a covering. What the exact laws do with rows of surfaces: compare, mark, look at the marks. The walk of the model that tells the surfaces of a covering.
-/
import Derived.Test.YtamgimdjnmcpaaaGreatBase
import Derived.Test.YtamgimdjnmcpaaaGreatSlice
import Derived.Test.YtamgimdjnmcpaaaGreatIntRow
import Derived.Test.YtamgimdjnmcpaaaGreatInts
import Derived.Test.YtamgimdjnmcpaaaGreatOwn
import Derived.Test.YtamgimdjnmcpaaaGreatGrid
import Derived.Test.YtamgimdjnmcpaaaGreatGridWalk
import Derived.Test.YtamgimdjnmcpaaaGreatGridRows
import Derived.Test.YtamgimdjnmcpaaaGreatWord
import Derived.Test.YtamgimdjnmcpaaaGreatClass
import Derived.Test.YtamgimdjnmcpaaaGreatLab
import Derived.Test.YtamgimdjnmcpaaaGreatMap
import Derived.Test.YtamgimdjnmcpaaaGreatSurf
import Derived.Test.YtamgimdjnmcpaaaGreatCov
import Derived.Test.YtamgimdjnmcpaaaGreatCovA
import Derived.Test.YtamgimdjnmcpaaaGreatCovD
import Derived.Deep.QuietTactic
import Derived.BigQuiet
import Derived.Deep.RegionHeld3
import Derived.StillTailTactics
import Derived.Test.YtamgimdjnmcpaaaGreatUses
import Derived.Test.YtamgimdjnmcpaaaGreatEnds
import Derived.Test.YtamgimdjnmcpaaaGreatMapB
import Derived.Test.YtamgimdjnmcpaaaGreatAm
import Derived.Test.YtamgimdjnmcpaaaGreatGrpA
import Derived.Test.YtamgimdjnmcpaaaGreatHead
namespace Go.Proofs.YtamgimdjnmcpaaaGreat
open Go.RowKit

namespace Cv
theorem cycFold_few (f : Nat → Nat) (n : Nat) : ∀ (ms : List Nat) (st : (Nat → Bool) × List (List Nat)), (ms.foldl (Mp.cycStep f n) st).2.length ≤ st.2.length + ms.length
  | [], _ => Nat.le_refl _
  | m :: ms, st => by
    refine Nat.le_trans (cycFold_few f n ms (Mp.cycStep f n st m)) ?_
    have : (Mp.cycStep f n st m).2.length ≤ st.2.length + 1 := by
      unfold Mp.cycStep
      split
      · omega
      · simp
    simp only [List.length_cons]; omega
theorem cycIn_few (f : Nat → Nat) (n : Nat) (ms : List Nat) : (cycIn f n ms).2.length ≤ ms.length := by
  have := cycFold_few f n ms (fun _ => false, [])
  simpa [cycIn] using this
theorem rimIn_few (L : List (List Int)) (ms : List Nat) : rimIn L ms ≤ ms.length := cycIn_few _ _ _
end Cv

theorem surf_load {w : World} {g : Nat} {x y z : Value} (h : Blk w g 46 #[x, y, z]) : (loadVar 46 ⟨g, 0, none⟩).run Tryz.prog w = .ok (.agg #[x, y, z]) w :=
  run_loadVar_row w g _ _ #[x, y, z] (0, 0) _ h Tryz.underlying46 rfl (by kernel_rfl)
set_option maxRecDepth 10000 in
set_option maxHeartbeats 2000000 in
theorem impl_coverOfPart (g : Int) (a am : Option Addr) (c cm : Nat) (L : List (List Int)) (ms : List Nat) (w : World) (ha : GridAt w a L) (hact : Cv.Act g L) (hm0 : RowAt w am (intCells (intsOf ms))) (hms : ∀ m ∈ ms, m < Cv.deg L) (hl : ms.length ≤ 5) :
    Calls Tryz.prog 31 #[.int .i64 g, .slice a L.length c, .slice am ms.length cm] w fun e w' => e = .returned (.agg #[.int .i64 (Cv.coverOf g L ms).1, .int .i64 (Cv.coverOf g L ms).2.1, .int .i64 (Cv.coverOf g L ms).2.2]) ∧ Below w.heap.size w w' := by
  have hS := fun W => impl_surfaceBelow g W
  have hP := hact.2.1
  have Hk0 := Lib.hid (Blk.new w 46 #[.int .i64 0, .int .i64 0, .int .i64 0])
  have Hb0 := Lib.hid ((Below.refl w.heap.size w).alloc (Nat.le_refl _) (.cells #[.int .i64 0, .int .i64 0, .int .i64 0] 46))
  by_cases h0 : g = 0
  · subst h0
    rw [show Cv.below 0 = (1, 0, 1) from rfl] at hS
    have hA := fun W (hb : Below w.heap.size w W) => impl_actAround 0 a c L W (by decide) (ha.below hb) (fun p hp => by have := (hP.1 p hp).1; have := hP.2.2.2.2; omega) (by have := hP.2.2.1; omega)
    have hrim : Cv.rimW 0 = [1, 2, -1, -2] := by decide
    have h2 : 2 ≤ L.length := by have := hact.2.2.1; omega
    have hok : Cv.actW L (Cv.rimW 0) = Cls.row (Cv.rim L) (Cv.deg L) := by
      rw [Cv.actW_of (Cv.ok_upto.2 ⟨hP, Cv.rimW_fits (by decide) hact.2.2.1⟩), hrim]; rfl
    rw [hok] at hA
    have hC := fun W (hb : Below w.heap.size w W) (ai : Option Addr) (ci : Nat) (hr : RowAt W ai (intCells (Cls.row (Cv.rim L) (Cv.deg L)))) => impl_sheetCycles ai am ci cm (Cv.deg L) ms (Cv.rim L) W hr (hm0.below hb) hms (fun d hd => Cv.act_lt hP (Cv.rim_lets h2) hd) (by have := hP.2.2.2.2; omega) (by omega)
    have hn : (Mp.natRows (Cv.cycIn (Cv.rim L) (Cv.deg L) ms).2).length = Cv.rimIn L ms := by simp [Mp.natRows, Cv.rimIn]
    have hv : Cv.coverOf 0 L ms = ((2 + (ms.length : Int) - (Cv.rimIn L ms : Int)) / 2, 0, (Cv.rimIn L ms : Int)) := if_pos rfl
    rw [hv]
    have hb := Cv.rimIn_few L ms
    have hrl : (Cls.row (Cv.rim L) (Cv.deg L)).length = Cv.deg L := Cls.row_len _ _
    generalize Cv.rimIn L ms = B at *
    have hB5 : B ≤ 5 := by omega
    have he0 := fun W => impl_EulerNumber 0 0 (B : Int) W (by intro x hx; simp at hx; omega)
    have he1 := fun W => impl_EulerNumber 1 0 1 W (by intro x hx; simp at hx; omega)
    rw [show Surf.euler 0 0 (B : Int) = 2 - (B : Int) by unfold Surf.euler; rw [if_pos ⟨by decide, by decide, by omega, Or.inl rfl⟩]; omega] at he0
    rw [show Surf.euler 1 0 1 = -1 by decide] at he1
    obtain ⟨E, hE⟩ : ∃ E : Int, E = -1 := ⟨_, rfl⟩
    rw [← hE] at he1
    obtain ⟨Z, hZ⟩ : ∃ Z, (ms.length : Int) * E = Z := ⟨_, rfl⟩
    obtain ⟨H, hH⟩ : ∃ H, (2 + (ms.length : Int) - (B : Int)) / 2 = H := ⟨_, rfl⟩
    obtain ⟨T, hT⟩ : ∃ T, 2 + (ms.length : Int) - (B : Int) = T := ⟨_, rfl⟩
    obtain ⟨F, hF⟩ : ∃ F, 2 - (B : Int) = F := ⟨_, rfl⟩
    have hZm : Z = -(ms.length : Int) := by rw [← hZ, hE]; omega
    have hm : IntKind.i64.wrap ((ms.length : Int) * E) = Z := by rw [hZ]; exact wrap_small (by omega) (by omega)
    have hs : IntKind.i64.wrap (F - Z) = T := by rw [show F - Z = T by omega]; exact wrap_small (by omega) (by omega)
    have t0 : (0 : Int) ≤ T := by omega
    have t1 : T ≤ 12 := by omega
    rw [hT] at hH
    have hd : T.tdiv 2 = H := by rw [Int.tdiv_eq_ediv_of_nonneg t0]; exact hH
    have q0 : (0 : Int) ≤ H := by omega
    have q1 : H ≤ 6 := by omega
    have hwH : IntKind.i64.wrap H = H := wrap_small (by omega) (by omega)
    rw [hF] at he0
    rw [hT, hH]
    have b0 : (0 : Int) ≤ (B : Int) := by omega
    have b1 : (B : Int) ≤ 5 := by omega
    generalize Mp.natRows (Cv.cycIn (Cv.rim L) (Cv.deg L) ms).2 = R at *
    generalize Cls.row (Cv.rim L) (Cv.deg L) = rw0 at *
    generalize Cv.deg L = n at *
    have HS := Lib.hid hS; have HA := Lib.hid hA; have HC := Lib.hid hC; have Hn := Lib.hid hn; have Hrl := Lib.hid hrl
    have HE0 := Lib.hid he0; have HE1 := Lib.hid he1
    clear hS hA hC hn hv hP hact hrim hok ha hm0 hms h2 hrl he0 he1 hE hZ hH hT hF hZm hb hB5
    go_enter Tryz.func31, Tryz.ntmps31
    go_wp2_with fail
    refine (HS.out _).mono ?_
    rintro e w1 ⟨rfl, hb1⟩
    have Hk1 := Lib.hid (Hk0.out.below hb1 Hk0.out.lt)
    have Hb1 := Lib.hid (Hb0.out.trans (hb1.mono Hb0.out.size)); clear hb1
    have hB1 := (Blk.new w1 46 #[.int .i64 1, .int .i64 0, .int .i64 1]).alloc (.cells #[.int .i64 0, .int .i64 0, .int .i64 0] 46)
    have hB2 : Blk ((w1.alloc (.cells #[.int .i64 1, .int .i64 0, .int .i64 1] 46)).alloc (.cells #[.int .i64 0, .int .i64 0, .int .i64 0] 46)) (w1.heap.size + 1) 46 #[.int .i64 0, .int .i64 0, .int .i64 0] := by
      have := Blk.new (w1.alloc (.cells #[.int .i64 1, .int .i64 0, .int .i64 1] 46)) 46 #[.int .i64 0, .int .i64 0, .int .i64 0]
      simpa using this
    have hB0 := (Hk1.out.alloc (.cells #[.int .i64 1, .int .i64 0, .int .i64 1] 46)).alloc (.cells #[.int .i64 0, .int .i64 0, .int .i64 0] 46)
    have hbw := (Hb1.out.alloc Hb1.out.size (.cells #[.int .i64 1, .int .i64 0, .int .i64 1] 46)).alloc (by have := Hb1.out.size; simp; omega) (.cells #[.int .i64 0, .int .i64 0, .int .i64 0] 46)
    go_wp2_with fail
    refine (HA.out _ hbw).mono ?_
    rintro e w2 ⟨ai, ci, rfl, _, _, hf2, hb2⟩
    rw [Hrl.out]
    have hbw2 := hbw.trans (hb2.mono hbw.size)
    have HB12 := Lib.hid (hB1.below hb2 hB1.lt); have HB22 := Lib.hid (hB2.below hb2 hB2.lt); have HB02 := Lib.hid (hB0.below hb2 hB0.lt)
    have Hbw2 := Lib.hid hbw2
    have Hcc := Lib.hid (HC.out w2 hbw2 ai ci hf2.row)
    clear hB1 hB2 hB0 hbw hb2 hf2 hbw2
    go_wp2_with fail
    refine Hcc.out.mono ?_
    rintro e w3 ⟨pa, pc, rfl, _, _, _, hb3⟩
    rw [Hn.out]
    have hB13 := HB12.out.below hb3 HB12.out.lt
    have hB23 := HB22.out.below hb3 HB22.out.lt
    have hB03 := HB02.out.below hb3 HB02.out.lt
    have hlt3 : w.heap.size ≠ w1.heap.size + 1 := by have := Hb1.out.size; omega
    have hlw3 : w.heap.size ≤ w1.heap.size + 1 := by have := Hb1.out.size; omega
    have c3 : w3.cell? ⟨w1.heap.size + 1, 2, none⟩ = some (.int .i64 0) := hB23.cell 2
    have f3 := hB23.frozen 2
    have hB1 := hB13.far (p := ⟨w1.heap.size + 1, 2, none⟩) (by simp) (.int .i64 (B : Int))
    have hB2 : Blk (w3.setCell ⟨w1.heap.size + 1, 2, none⟩ (.int .i64 (B : Int))) (w1.heap.size + 1) 46 #[.int .i64 0, .int .i64 0, .int .i64 (B : Int)] := hB23.put 2 (.int .i64 (B : Int))
    have hB0 := hB03.far (p := ⟨w1.heap.size + 1, 2, none⟩) hlt3 (.int .i64 (B : Int))
    have hbw := (Hbw2.out.trans (hb3.mono Hbw2.out.size)).setCell (p := ⟨w1.heap.size + 1, 2, none⟩) hlw3 (.int .i64 (B : Int))
    clear hb3 hB13 hB23 hB03 hlt3 hlw3
    go_wp2_with fail
    generalize w3.setCell ⟨w1.heap.size + 1, 2, none⟩ (.int .i64 (B : Int)) = W4 at *
    have hSS : ∀ W, Below W4.heap.size W4 W → W.cell? ⟨w1.heap.size, 0, none⟩ = some (.int .i64 1) ∧ W.cell? ⟨w1.heap.size, 1, none⟩ = some (.int .i64 0) ∧ W.cell? ⟨w1.heap.size, 2, none⟩ = some (.int .i64 1) ∧ W.cell? ⟨w1.heap.size + 1, 0, none⟩ = some (.int .i64 0) ∧ W.cell? ⟨w1.heap.size + 1, 1, none⟩ = some (.int .i64 0) ∧ W.cell? ⟨w1.heap.size + 1, 2, none⟩ = some (.int .i64 (B : Int)) := fun W hb => by
      have h1 := hB1.below hb hB1.lt
      have h2 := hB2.below hb hB2.lt
      exact ⟨h1.cell 0, h1.cell 1, h1.cell 2, h2.cell 0, h2.cell 1, h2.cell 2⟩
    have hBd := Below.drew (Below.refl W4.heap.size W4)
    have HSS := Lib.hid hSS
    have HSd := Lib.hid (hSS _ hBd)
    have HB0 := Lib.hid hB0; have HB1 := Lib.hid hB1; have HB2 := Lib.hid hB2; have Hbw := Lib.hid hbw
    clear hB0 hB1 hB2 hbw hSS
    go_wp2
    go_region_held3 (fun w' => w'.cell? ⟨w1.heap.size, 0, none⟩ = some (.int .i64 1) ∧ w'.cell? ⟨w1.heap.size, 1, none⟩ = some (.int .i64 0) ∧ w'.cell? ⟨w1.heap.size, 2, none⟩ = some (.int .i64 1) ∧ w'.cell? ⟨w1.heap.size + 1, 0, none⟩ = some (.int .i64 0) ∧ w'.cell? ⟨w1.heap.size + 1, 1, none⟩ = some (.int .i64 0) ∧ w'.cell? ⟨w1.heap.size + 1, 2, none⟩ = some (.int .i64 (B : Int))) (first | (with_reducible assumption) | (with_reducible exact HSd.out)) (first
      | (have hB4' := hB4; clear hB4'; go_at_call 78; refine (HE1.out _).mono ?_; rintro e w5 ⟨rfl, hb5⟩; have hB5 := hB4.trans (hb5.mono hB4.size); have hS5 := HSS.out _ hB5)
      | (go_at_call 78; refine (HE0.out _).mono ?_; rintro e w4 ⟨rfl, hb4⟩; have hB4 := hBd.trans (hb4.mono hBd.size); have hS4 := HSS.out _ hB4))
    all_goals
      have h2 := HB2.out.below hB5 HB2.out.lt
      have h0 := HB0.out.below hB5 HB0.out.lt
      have fz := h2.frozen 0
      have cz : w5.cell? ⟨w1.heap.size + 1, 0, none⟩ = some (.int .i64 0) := h2.cell 0
      have fn0 := h0.frozen 0; have fn1 := h0.frozen 1; have fn2 := h0.frozen 2
      have cn0 : w5.cell? ⟨w.heap.size, 0, none⟩ = some (.int .i64 0) := h0.cell 0
      have cn1 : w5.cell? ⟨w.heap.size, 1, none⟩ = some (.int .i64 0) := h0.cell 1
      have cn2 : w5.cell? ⟨w.heap.size, 2, none⟩ = some (.int .i64 0) := h0.cell 2
      have hlt : w.heap.size ≠ w1.heap.size + 1 := by have := Hb1.out.size; omega
      have h6 := h2.put 0 (.int .i64 H)
      have h60 := h0.far (p := ⟨w1.heap.size + 1, 0, none⟩) hlt (.int .i64 H)
      have H6 := Lib.hid h6; have H60 := Lib.hid h60
      have HB5 := Lib.hid hB5
      clear h2 h0 h6 h60 hS5 hB5
      have hlow : w.heap.size ≤ w1.heap.size + 1 := by have := Hb1.out.size; omega
      have Hlow := Lib.hid hlow
      clear hlow
      go_wp2
      have hlow := Hlow.out
      have hbe := ((((Hbw.out.trans (HB5.out.mono Hbw.out.size)).setCell (p := ⟨w1.heap.size + 1, 0, none⟩) hlow (.int .i64 H)).setCell (p := ⟨w.heap.size, 0, none⟩) (Nat.le_refl _) (.int .i64 H)).setCell (p := ⟨w.heap.size, 1, none⟩) (Nat.le_refl _) (.int .i64 0)).setCell (p := ⟨w.heap.size, 2, none⟩) (Nat.le_refl _) (.int .i64 (B : Int))
      have hke := ((H60.out.put 0 (.int .i64 H)).put 1 (.int .i64 0)).put 2 (.int .i64 (B : Int))
      refine bodyPost_ret (results_cell_row rfl _ _ w.heap.size 46 #[.int .i64 H, .int .i64 0, .int .i64 (B : Int)] (0, 0) _ rfl hke Tryz.underlying46 rfl (by kernel_rfl)) ?_ ?_
      · rfl
      · exact ⟨rfl, hbe⟩
  · have hbl : Cv.below g = (g, 0, 0) := if_neg h0
    rw [hbl] at hS
    have hg12 : g = 1 ∨ g = 2 := by have := hact.1; omega
    have hv : Cv.coverOf g L ms = (1 + (ms.length : Int) * (g - 1), 0, 0) := if_neg h0
    rw [hv]
    have he0 := fun W => impl_EulerNumber 0 0 0 W (by intro x hx; simp at hx; omega)
    have he1 := fun W => impl_EulerNumber g 0 0 W (by intro x hx; simp at hx; omega)
    rw [show Surf.euler 0 0 0 = 2 by decide] at he0
    rw [show Surf.euler g 0 0 = 2 - 2 * g by rcases hg12 with rfl | rfl <;> decide] at he1
    obtain ⟨Z, hZ⟩ : ∃ Z, (ms.length : Int) * (2 - 2 * g) = Z := ⟨_, rfl⟩
    obtain ⟨H, hH⟩ : ∃ H, 1 + (ms.length : Int) * (g - 1) = H := ⟨_, rfl⟩
    have hZH : 2 - Z = 2 * H := by rw [← hZ, ← hH]; rcases hg12 with rfl | rfl <;> omega
    have hH0 : 0 ≤ H ∧ H ≤ 6 := by rw [← hH]; rcases hg12 with rfl | rfl <;> omega
    obtain ⟨E, hE⟩ : ∃ E, 2 - 2 * g = E := ⟨_, rfl⟩
    rw [hE] at hZ he1
    have hm : IntKind.i64.wrap ((ms.length : Int) * E) = Z := by rw [hZ]; exact wrap_small (by omega) (by omega)
    have hs : IntKind.i64.wrap (2 - Z) = 2 * H := by rw [hZH]; exact wrap_small (by omega) (by omega)
    have hd : (2 * H).tdiv 2 = H := by rw [Int.mul_tdiv_cancel_left _ (by decide)]
    have hwH : IntKind.i64.wrap H = H := wrap_small (by omega) (by omega)
    obtain ⟨T, hT⟩ : ∃ T, 2 * H = T := ⟨_, rfl⟩
    rw [hT] at hs hd
    rw [hH]
    have q0 : (0 : Int) ≤ H := hH0.1
    have q1 : H ≤ 6 := hH0.2
    have t0 : (0 : Int) ≤ T := by omega
    have t1 : T ≤ 12 := by omega
    have HS := Lib.hid hS; have HE0 := Lib.hid he0; have HE1 := Lib.hid he1
    clear hS he0 he1 hv hE hZ hH hZH hH0 hT hg12 hP hact ha hm0 hms hbl
    go_enter Tryz.func31, Tryz.ntmps31
    go_wp2_with fail
    refine (HS.out _).mono ?_
    rintro e w1 ⟨rfl, hb1⟩
    have Hk1 := Lib.hid (Hk0.out.below hb1 Hk0.out.lt)
    have Hb1 := Lib.hid (Hb0.out.trans (hb1.mono Hb0.out.size)); clear hb1
    have hB1 := (Blk.new w1 46 #[.int .i64 g, .int .i64 0, .int .i64 0]).alloc (.cells #[.int .i64 0, .int .i64 0, .int .i64 0] 46)
    have hB2 : Blk ((w1.alloc (.cells #[.int .i64 g, .int .i64 0, .int .i64 0] 46)).alloc (.cells #[.int .i64 0, .int .i64 0, .int .i64 0] 46)) (w1.heap.size + 1) 46 #[.int .i64 0, .int .i64 0, .int .i64 0] := by
      have := Blk.new (w1.alloc (.cells #[.int .i64 g, .int .i64 0, .int .i64 0] 46)) 46 #[.int .i64 0, .int .i64 0, .int .i64 0]
      simpa using this
    have hB0 := (Hk1.out.alloc (.cells #[.int .i64 g, .int .i64 0, .int .i64 0] 46)).alloc (.cells #[.int .i64 0, .int .i64 0, .int .i64 0] 46)
    have hbw := (Hb1.out.alloc Hb1.out.size (.cells #[.int .i64 g, .int .i64 0, .int .i64 0] 46)).alloc (by have := Hb1.out.size; simp; omega) (.cells #[.int .i64 0, .int .i64 0, .int .i64 0] 46)
    go_wp2_with fail
    generalize (w1.alloc (.cells #[.int .i64 g, .int .i64 0, .int .i64 0] 46)).alloc (.cells #[.int .i64 0, .int .i64 0, .int .i64 0] 46) = W3 at *
    have hSS : ∀ W, Below W3.heap.size W3 W → W.cell? ⟨w1.heap.size, 0, none⟩ = some (.int .i64 g) ∧ W.cell? ⟨w1.heap.size, 1, none⟩ = some (.int .i64 0) ∧ W.cell? ⟨w1.heap.size, 2, none⟩ = some (.int .i64 0) ∧ W.cell? ⟨w1.heap.size + 1, 0, none⟩ = some (.int .i64 0) ∧ W.cell? ⟨w1.heap.size + 1, 1, none⟩ = some (.int .i64 0) ∧ W.cell? ⟨w1.heap.size + 1, 2, none⟩ = some (.int .i64 0) := fun W hb => by
      have h1 := hB1.below hb hB1.lt
      have h2 := hB2.below hb hB2.lt
      exact ⟨h1.cell 0, h1.cell 1, h1.cell 2, h2.cell 0, h2.cell 1, h2.cell 2⟩
    have hBd := Below.drew (Below.refl W3.heap.size W3)
    have HSS := Lib.hid hSS
    have HSd := Lib.hid (hSS _ hBd)
    have HB0 := Lib.hid hB0; have HB1 := Lib.hid hB1; have HB2 := Lib.hid hB2; have Hbw := Lib.hid hbw
    clear hB0 hB1 hB2 hbw hSS
    go_wp2
    go_region_held3 (fun w' => w'.cell? ⟨w1.heap.size, 0, none⟩ = some (.int .i64 g) ∧ w'.cell? ⟨w1.heap.size, 1, none⟩ = some (.int .i64 0) ∧ w'.cell? ⟨w1.heap.size, 2, none⟩ = some (.int .i64 0) ∧ w'.cell? ⟨w1.heap.size + 1, 0, none⟩ = some (.int .i64 0) ∧ w'.cell? ⟨w1.heap.size + 1, 1, none⟩ = some (.int .i64 0) ∧ w'.cell? ⟨w1.heap.size + 1, 2, none⟩ = some (.int .i64 0)) (first | (with_reducible assumption) | (with_reducible exact HSd.out)) (first
      | (have hB4' := hB4; clear hB4'; go_at_call 78; refine (HE1.out _).mono ?_; rintro e w5 ⟨rfl, hb5⟩; have hB5 := hB4.trans (hb5.mono hB4.size); have hS5 := HSS.out _ hB5)
      | (go_at_call 78; refine (HE0.out _).mono ?_; rintro e w4 ⟨rfl, hb4⟩; have hB4 := hBd.trans (hb4.mono hBd.size); have hS4 := HSS.out _ hB4))
    all_goals
      have h2 := HB2.out.below hB5 HB2.out.lt
      have h0 := HB0.out.below hB5 HB0.out.lt
      have fz := h2.frozen 0
      have cz : w5.cell? ⟨w1.heap.size + 1, 0, none⟩ = some (.int .i64 0) := h2.cell 0
      have fn0 := h0.frozen 0; have fn1 := h0.frozen 1; have fn2 := h0.frozen 2
      have cn0 : w5.cell? ⟨w.heap.size, 0, none⟩ = some (.int .i64 0) := h0.cell 0
      have cn1 : w5.cell? ⟨w.heap.size, 1, none⟩ = some (.int .i64 0) := h0.cell 1
      have cn2 : w5.cell? ⟨w.heap.size, 2, none⟩ = some (.int .i64 0) := h0.cell 2
      have hlt : w.heap.size ≠ w1.heap.size + 1 := by have := Hb1.out.size; omega
      have h6 := h2.put 0 (.int .i64 H)
      have h60 := h0.far (p := ⟨w1.heap.size + 1, 0, none⟩) hlt (.int .i64 H)
      have H6 := Lib.hid h6; have H60 := Lib.hid h60
      have HB5 := Lib.hid hB5
      clear h2 h0 h6 h60 hS5 hB5
      have hlow : w.heap.size ≤ w1.heap.size + 1 := by have := Hb1.out.size; omega
      have Hlow := Lib.hid hlow
      clear hlow
      go_wp2
      have hlow := Hlow.out
      have hbe := ((((Hbw.out.trans (HB5.out.mono Hbw.out.size)).setCell (p := ⟨w1.heap.size + 1, 0, none⟩) hlow (.int .i64 H)).setCell (p := ⟨w.heap.size, 0, none⟩) (Nat.le_refl _) (.int .i64 H)).setCell (p := ⟨w.heap.size, 1, none⟩) (Nat.le_refl _) (.int .i64 0)).setCell (p := ⟨w.heap.size, 2, none⟩) (Nat.le_refl _) (.int .i64 0)
      have hke := ((H60.out.put 0 (.int .i64 H)).put 1 (.int .i64 0)).put 2 (.int .i64 0)
      refine bodyPost_ret (results_cell_row rfl _ _ w.heap.size 46 #[.int .i64 H, .int .i64 0, .int .i64 0] (0, 0) _ rfl hke Tryz.underlying46 rfl (by kernel_rfl)) ?_ ?_
      · rfl
      · exact ⟨rfl, hbe⟩
end Go.Proofs.YtamgimdjnmcpaaaGreat
namespace Go.Proofs.YtamgimdjnmcpaaaGreat
open Go.RowKit

/-- The cells of a row of surfaces. -/
def sfCells (l : List (Int × Int × Int)) : List Value := l.flatMap fun s => [.int .i64 s.1, .int .i64 s.2.1, .int .i64 s.2.2]
theorem sfCells_snoc (l : List (Int × Int × Int)) (s : Int × Int × Int) : sfCells (l ++ [s]) = sfCells l ++ [.int .i64 s.1, .int .i64 s.2.1, .int .i64 s.2.2] := by simp [sfCells]
/-- A new row of surfaces, and whether. -/
def GivesSf (w : World) (l : List (Int × Int × Int)) (b : Bool) (e : Ending) (w' : World) : Prop :=
  ∃ v, e = .returned (.tuple #[v, .bool b]) ∧ w'.ownsRow w.heap.size 46 3 v l.length (sfCells l) ∧ Below w.heap.size w w'
namespace Cv
theorem part_of {L : List (List Int)} {ms : List Nat} (h : ms ∈ partsN L) : (∀ m ∈ ms, m < deg L) ∧ ms.length ≤ deg L := by
  unfold partsN classes at h
  obtain ⟨s, _, rfl⟩ := List.mem_map.1 h
  unfold member
  exact ⟨fun m hm => List.mem_range.1 (List.mem_filter.1 hm).1, Nat.le_trans (List.length_filter_le _ _) (by rw [List.length_range]; exact Nat.le_refl _)⟩
theorem parts_few {L : List (List Int)} : (partsN L).length ≤ deg L := by
  unfold partsN classes firsts
  rw [List.length_map]
  exact Nat.le_trans (List.length_filter_le _ _) (by rw [List.length_range]; exact Nat.le_refl _)
end Cv
theorem info_surf_parts : ∃ i, Tryz.prog.info? 46 = some i ∧ i.zero = some (.agg #[.int .i64 0, .int .i64 0, .int .i64 0]) ∧ i.size = 3 ∧ i.bytes = 24 := by
  have h : (Tryz.prog.info? 46).isSome = true := by kernel_rfl
  obtain ⟨i, hi⟩ := Option.isSome_iff_exists.1 h
  have e1 : (Tryz.prog.info? 46).map (fun x => x.zero) = some (some (.agg #[.int .i64 0, .int .i64 0, .int .i64 0])) := by kernel_rfl
  have e2 : (Tryz.prog.info? 46).map (fun x => x.size) = some 3 := by kernel_rfl
  have e3 : (Tryz.prog.info? 46).map (fun x => x.bytes) = some 24 := by kernel_rfl
  rw [hi] at e1 e2 e3
  exact ⟨i, hi, by simpa using e1, by simpa using e2, by simpa using e3⟩

theorem own_len3 {w : World} {base n : Nat} {e : TypeId} {v : Value} {xs : List Value} (h : w.ownsRow base e 3 v n xs) : ∃ a cap, v = .slice a n cap := by
  obtain ⟨_, ⟨h1, rfl⟩ | ⟨g, cap, cur, h1, _⟩⟩ := h
  · exact ⟨_, _, h1⟩
  · exact ⟨_, _, h1⟩
theorem own_mono3 {w : World} {base base' n : Nat} {e : TypeId} {v : Value} {xs : List Value} (h : w.ownsRow base e 3 v n xs) (hb : base' ≤ base) : w.ownsRow base' e 3 v n xs := by
  obtain ⟨h0, h1 | ⟨g, cap, cur, h1, h2, h3⟩⟩ := h
  · exact ⟨h0, Or.inl h1⟩
  · exact ⟨h0, Or.inr ⟨g, cap, cur, h1, Nat.le_trans hb h2, h3⟩⟩
/-- append of one surface to a row of the call's own. -/
theorem append_surf {P : Program} {ops : Array Oper} {rest : List Oper} {o : Oper} {a : Act} {Q : Exit → Act → World → Prop} {W : World} {u1 u2 u3 : Value} {te : TypeId} (hgd : o.guard = none) (s x : Operand) (t : TypeId)
    (ho : o.op = .call { callee := .builtin .append, args := #[s, x], argTypes := #[t, t] })
    (base : Nat) (e : TypeId) (i : TypeInfo) (z : Value) (bytes : Nat) (ht : P.underlying t = some (.slice e)) (hi : P.info? e = some i) (hz : i.zero = some z)
    (hsize : i.size = 3) (hby : i.bytes = bytes) (hzs : z.cells.size = 3)
    (v : Value) (n : Nat) (xs : List Value) (hs : a.eval s = v) (hown : W.ownsRow base e 3 v n xs)
    (h1 : u1.oneCell' = true) (h2 : u2.oneCell' = true) (h3 : u3.oneCell' = true) (c : Nat) (hx : a.eval x = .slice (some ⟨W.heap.size, 0, none⟩) 1 c)
    (h63 : n + 1 ≤ maxLen) (hbytes : (n + 1) * bytes ≤ 140737488355328) (hbase : base ≤ W.heap.size)
    (h : ∀ v' w', w'.ownsRow base e 3 v' (n + 1) (xs ++ [u1, u2, u3]) → (W.alloc (.cells #[u1, u2, u3] te)).grownBy w' v.ownBlock → (v'.ownBlock = v.ownBlock ∨ v'.ownBlock = some (W.alloc (.cells #[u1, u2, u3] te)).heap.size) → wpList P ops Q rest (a.put o.dst v') w') :
    wpList P ops Q (o :: rest) a (W.alloc (.cells #[u1, u2, u3] te)) :=
  wpList_append_new hgd s x t ho base e i z 3 bytes ht hi hz hsize hby hzs (by decide) v n xs hs (hown.alloc _) ⟨W.heap.size, 0, none⟩ 1 c [u1, u2, u3] hx rfl
    (fun j y hj => by
      have hb : Blk (W.alloc (.cells #[u1, u2, u3] te)) W.heap.size te #[u1, u2, u3] := Blk.new W te _
      have hadd : (⟨W.heap.size, 0, none⟩ : Addr).add j = ⟨W.heap.size, j, none⟩ := by unfold Addr.add; split <;> simp_all
      rw [hadd, hb.cell j]
      simpa using hj)
    (fun y hy => by
      simp only [List.mem_cons, List.not_mem_nil, or_false] at hy
      rcases hy with rfl | rfl | rfl
      · exact h1
      · exact h2
      · exact h3) h63 hbytes (Nat.le_trans hbase (by simp)) h

set_option maxRecDepth 10000 in
set_option maxHeartbeats 2000000 in
theorem impl_CoverOf (g : Int) (a : Option Addr) (c : Nat) (L : List (List Int)) (w : World) (ha : GridAt w a L) (hL : ∀ p ∈ L, p.length ≤ 1048576) (hn : L.length ≤ 1048576) :
    Calls Tryz.prog 6 #[.int .i64 g, .slice a L.length c] w fun e w' => GivesSf w (Cv.covers g L) (decide (Cv.Act g L)) e w' := by
  have hA := impl_IsAction g a c L w ha hL hn
  by_cases hact : Cv.Act g L
  · rw [decide_eq_true hact] at hA ⊢
    have hP := hact.2.1
    have hcv : Cv.covers g L = (Cv.partsN L).map (Cv.coverOf g L) := if_pos hact
    rw [hcv]
    have hS := fun W (hb : Below w.heap.size w W) => impl_SheetParts a c L W (ha.below hb) hL hn
    have hpt : Cv.parts L = Mp.natRows (Cv.partsN L) := if_pos hP
    rw [hpt] at hS
    have hdeg := hP.2.2.2.2
    have hfew := Nat.le_trans (Cv.parts_few (L := L)) hdeg
    have hC := fun W (hb : Below w.heap.size w W) ms (hm : ms ∈ Cv.partsN L) (am : Option Addr) (cm : Nat) (hr : RowAt W am (intCells (intsOf ms))) => impl_coverOfPart g a am c cm L ms W (ha.below hb) hact hr (Cv.part_of hm).1 (Nat.le_trans (Cv.part_of hm).2 hdeg)
    have hsz : (Mp.natRows (Cv.partsN L)).length = (Cv.partsN L).length := by simp [Mp.natRows]
    generalize Cv.partsN L = Ps at *
    have HA := Lib.hid hA; have HS := Lib.hid hS; have HC := Lib.hid hC; have Hsz := Lib.hid hsz
    obtain ⟨i0, hi0, hz0, hz1, hz2⟩ := info_surf_parts
    have Hi0 := Lib.hid hi0; have Hz0 := Lib.hid hz0; have Hz1 := Lib.hid hz1; have Hz2 := Lib.hid hz2
    clear hA hS hC hsz hcv hpt hP hact ha hL hn hdeg hi0 hz0 hz1 hz2
    go_enter Tryz.func6, Tryz.ntmps6
    go_wp2_with fail
    refine HA.out.mono ?_
    rintro e w1 ⟨rfl, hb1⟩
    have Hb1 := Lib.hid hb1; clear hb1
    go_wp2_with fail
    refine (HS.out w1 Hb1.out).mono ?_
    rintro e w2 ⟨pa, pc, rfl, hpc, hpm, hg2, hb2⟩
    have Hb2 := Lib.hid (Hb1.out.trans (hb2.mono Hb1.out.size))
    have Hg2 := Lib.hid hg2.grid
    rw [Hsz.out]
    clear hb2 hg2
    go_wp2
    go_loopw [6, 8, 16] (fun cv _ iv wr => ∃ i : Nat, i ≤ Ps.length ∧ iv = .int .i64 i ∧ Hid (wr.ownsRow w2.heap.size 46 3 cv i (sfCells ((Ps.take i).map (Cv.coverOf g L)))) ∧ Hid (Below w2.heap.size w2 wr)) (fun _ _ iv _ => Ps.length - (intOf iv).toNat)
    case atStart => exact ⟨0, Nat.zero_le _, rfl, Lib.hid ⟨rfl, Or.inl ⟨rfl, rfl⟩⟩, Lib.hid (Below.refl _ _)⟩
    case round =>
      obtain ⟨i, hi, rfl, hown, hbr⟩ := hrel
      by_cases hlt : i < Ps.length
      · obtain ⟨ms, hms⟩ := get_some hlt
        have hrow : (Mp.natRows Ps)[i]? = some (intsOf ms) := by
          have : (Mp.natRows Ps)[i]? = (Ps[i]?).map intsOf := by simp [Mp.natRows]; rfl
          rw [this, hms]; rfl
        obtain ⟨b, o, ra, rc, rfl, hbo, hcell, hra⟩ := Hg2.out.get hrow
        rw [intsOf_len] at hcell
        have hcell2 : wr.cell? ⟨b, o + i, none⟩ = some (.slice ra ms.length rc) := by rw [hbr.out.cell hbo]; exact hcell
        have hcov := HC.out wr (Hb2.out.trans (hbr.out.mono Hb2.out.size)) ms (get_mem hms) ra rc (hra.below hbr.out)
        have hsn : (Ps.take (i + 1)).map (Cv.coverOf g L) = (Ps.take i).map (Cv.coverOf g L) ++ [Cv.coverOf g L ms] := by
          rw [List.take_add_one, hms]; simp
        have hcl : sfCells ((Ps.take (i + 1)).map (Cv.coverOf g L)) = sfCells ((Ps.take i).map (Cv.coverOf g L)) ++ [.int .i64 (Cv.coverOf g L ms).1, .int .i64 (Cv.coverOf g L ms).2.1, .int .i64 (Cv.coverOf g L ms).2.2] := by rw [hsn, sfCells_snoc]
        generalize (Cv.coverOf g L ms).1 = X at *
        generalize (Cv.coverOf g L ms).2.1 = Y at *
        generalize (Cv.coverOf g L ms).2.2 = Zc at *
        have i0' : (0 : Int) ≤ (i : Int) := by omega
        have i1' : (i : Int) < (Ps.length : Int) := by omega
        have hm1 : i + 1 ≤ maxLen := by unfold maxLen; omega
        have hm2 : (i + 1) * 24 ≤ 140737488355328 := by omega
        have Hcov := Lib.hid hcov; have Hcl := Lib.hid hcl; have Hm1 := Lib.hid hm1; have Hm2 := Lib.hid hm2
        clear hcov hcl hsn hrow hms hcell hra hm1 hm2
        generalize ms.length = ml at *
        obtain ⟨ca, cc, he⟩ := own_len3 hown.out
        subst he
        go_wp2_with fail
        refine Hcov.out.mono ?_
        rintro e w4 ⟨rfl, hb4⟩
        have hown4 : w4.ownsRow w2.heap.size 46 3 (.slice ca i cc) i (sfCells ((Ps.take i).map (Cv.coverOf g L))) := own_keep hown.out hb4 (fun k hk => (hown.out.lt k hk).2)
        have hb5 := hbr.out.trans (hb4.mono hbr.out.size)
        have Hown4 := Lib.hid hown4; have Hb5 := Lib.hid hb5
        clear hb4 hown4 hb5
        go_wp2_with (at_builtin; refine append_surf rfl (.tmp 20) (.tmp 25) 27 rfl w2.heap.size 46 i0 _ 24 Tryz.underlying27 Hi0.out Hz0.out Hz1.out Hz2.out (by rfl) _ _ _ rfl Hown4.out rfl rfl rfl _ rfl Hm1.out Hm2.out Hb5.out.size ?_; intro v6 w6 hown6 hg6 _)
        have hb6 := (Hb5.out.alloc Hb5.out.size (.cells #[.int .i64 X, .int .i64 Y, .int .i64 Zc] 46)).grown hg6 (by have := Hb5.out.size; simp; omega) (fun k hk => (Hown4.out.lt k hk).1)
        have Hown6 := Lib.hid hown6; have Hb6 := Lib.hid hb6
        clear hown6 hg6 hb6
        go_wp2
        go_roundw
        case rel => exact ⟨i + 1, by omega, by go_num, Lib.hid (by rw [Hcl.out]; exact Hown6.out), Hb6⟩
        case measure => simp [intOf]; omega
      · obtain rfl : i = Ps.length := by omega
        rw [List.take_of_length_le (Nat.le_refl _)] at hown
        go_wp2
        go_ret2
        exact ⟨_, rfl, by rw [List.length_map]; exact own_mono3 hown.out Hb2.out.size, Hb2.out.trans (hbr.out.mono Hb2.out.size)⟩
  · rw [decide_eq_false hact] at hA ⊢
    have hcv : Cv.covers g L = [] := if_neg hact
    rw [hcv]
    have HA := Lib.hid hA
    clear hA hact ha hcv
    go_enter Tryz.func6, Tryz.ntmps6
    go_wp2_with fail
    refine HA.out.mono ?_
    rintro e w1 ⟨rfl, hb1⟩
    have Hb1 := Lib.hid hb1; clear hb1
    go_wp2
    go_ret2
    exact ⟨_, rfl, ⟨rfl, Or.inl ⟨rfl, rfl⟩⟩, Hb1.out⟩
end Go.Proofs.YtamgimdjnmcpaaaGreat
namespace Go.Proofs.YtamgimdjnmcpaaaGreat
open Go.RowKit

theorem sfCells_at : ∀ (l : List (Int × Int × Int)) (i : Nat) (s : Int × Int × Int), l[i]? = some s → (sfCells l)[i * 3]? = some (.int .i64 s.1) ∧ (sfCells l)[i * 3 + 1]? = some (.int .i64 s.2.1) ∧ (sfCells l)[i * 3 + 2]? = some (.int .i64 s.2.2)
  | [], i, s, h => by simp at h
  | x :: l, 0, s, h => by
    rw [List.getElem?_cons_zero] at h
    cases h; exact ⟨rfl, rfl, rfl⟩
  | x :: l, i + 1, s, h => by
    have := sfCells_at l i s (by simpa using h)
    rw [show (i + 1) * 3 = i * 3 + 3 by omega, show i * 3 + 3 + 1 = i * 3 + 1 + 3 by omega, show i * 3 + 3 + 2 = i * 3 + 2 + 3 by omega]
    exact this
theorem sfCells_len (l : List (Int × Int × Int)) : (sfCells l).length = l.length * 3 := by
  induction l with
  | nil => rfl
  | cons x l ih => show (_ :: _ :: _ :: sfCells l).length = _; simp [ih]; omega
theorem sfCells_some {w : World} {a : Option Addr} {l : List (Int × Int × Int)} (h : RowAt w a (sfCells l)) {i : Nat} {s : Int × Int × Int} (hi : l[i]? = some s) :
    ∃ b o, a = some ⟨b, o, none⟩ ∧ b < w.heap.size ∧ w.cell? ⟨b, o + i * 3, none⟩ = some (.int .i64 s.1) ∧ w.cell? ⟨b, o + i * 3 + 1, none⟩ = some (.int .i64 s.2.1) ∧ w.cell? ⟨b, o + i * 3 + 2, none⟩ = some (.int .i64 s.2.2) := by
  obtain ⟨h1, h2, h3⟩ := sfCells_at l i s hi
  rcases h with h | ⟨b, o, rfl, hb, hc⟩
  · rw [h] at h1; simp at h1
  · exact ⟨b, o, rfl, hb, hc _ _ h1, hc _ _ h2, hc _ _ h3⟩

/-- A row of surfaces in a block of its own, from lo on below hi. -/
def SfIn (w : World) (lo hi : Nat) (a : Option Addr) (R : List (Int × Int × Int)) : Prop :=
  R = [] ∨ ∃ g all, a = some ⟨g, 0, none⟩ ∧ lo ≤ g ∧ g < hi ∧ Blk w g 46 all ∧ R.length * 3 ≤ all.size ∧ ∀ (j : Nat) v, (sfCells R)[j]? = some v → all[j]? = some v
section
variable {w w' : World} {lo hi : Nat} {a : Option Addr} {R : List (Int × Int × Int)}
theorem SfIn.row (h : SfIn w lo hi a R) : RowAt w a (sfCells R) := by
  rcases h with rfl | ⟨g, all, rfl, _, _, hk, _, hc⟩
  · exact Or.inl rfl
  · exact Or.inr ⟨g, 0, rfl, hk.lt, fun j v h => by rw [Nat.zero_add, hk.cell j]; exact hc j v h⟩
theorem SfIn.below (h : SfIn w lo hi a R) (hb : Below w.heap.size w w') : SfIn w' lo hi a R := by
  rcases h with h | ⟨g, all, e, h1, h2, hk, h3⟩
  · exact Or.inl h
  · exact Or.inr ⟨g, all, e, h1, h2, hk.below hb hk.lt, h3⟩
theorem SfIn.only {lo' hi' : Nat} (h : SfIn w lo hi a R) (ho : Only lo' hi' w w') (hd : hi ≤ lo' ∨ hi' ≤ lo) : SfIn w' lo hi a R := by
  rcases h with h | ⟨g, all, e, h1, h2, hk, h3⟩
  · exact Or.inl h
  · exact Or.inr ⟨g, all, e, h1, h2, ho.block hk (by omega), h3⟩
end
/-- What GivesSf says, in the form that exact laws ask for. -/
theorem GivesSf.exact {w w' : World} {R : List (Int × Int × Int)} {b : Bool} {e : Ending} (h : GivesSf w R b e w') :
    ∃ a c, e = .returned (.tuple #[.slice a R.length c, .bool b]) ∧ R.length ≤ c ∧ c ≤ maxLen ∧ SfIn w' w.heap.size w'.heap.size a R ∧ Below w.heap.size w w' := by
  obtain ⟨v, rfl, ⟨hl, ⟨rfl, h0⟩ | ⟨g, cap, cur, rfl, h1, h2, h3, h4, h5, h6⟩⟩, hb⟩ := h
  · exact ⟨none, 0, by rw [h0], by omega, Nat.zero_le _, Or.inl (List.length_eq_zero_iff.1 h0), hb⟩
  · refine ⟨some ⟨g, 0, none⟩, cap, rfl, h3, h4, Or.inr ⟨g, cur, rfl, h1, (show Blk w' g 46 cur from h2).lt, h2, by rw [h5]; exact Nat.mul_le_mul_right 3 h3, fun j v hj => ?_⟩, hb⟩
    rw [← h6, List.getElem?_take] at hj
    split at hj
    · rw [← Array.getElem?_toList]; exact hj
    · cases hj
end Go.Proofs.YtamgimdjnmcpaaaGreat
namespace Go.Proofs.YtamgimdjnmcpaaaGreat
open Go.RowKit

namespace Cv
theorem cycTo_heads (f : Nat → Nat) (n : Nat) : ∀ k, ∀ c ∈ (Mp.cycTo f n k).2, c ≠ [] ∧ c.headD 0 < k
  | 0, c, hc => by rw [Mp.cycTo_zero] at hc; cases hc
  | k + 1, c, hc => by
    rw [Mp.cycTo_succ] at hc
    unfold Mp.cycStep at hc
    split at hc
    · have := cycTo_heads f n k c hc; exact ⟨this.1, by omega⟩
    · rename_i hne
      rcases List.mem_append.1 hc with hc | hc
      · have := cycTo_heads f n k c hc; exact ⟨this.1, by omega⟩
      · rw [List.mem_singleton.1 hc]
        exact ⟨hne, by rw [cyc_head hne]; omega⟩
/-- How many of the cycles begin in a part. -/
def beg (ms : List Nat) (c : List Nat) : Bool := decide (((c.headD 0 : Nat) : Int) ∈ intsOf ms)
theorem mem_ints {x : Nat} {ms : List Nat} : ((x : Nat) : Int) ∈ intsOf ms ↔ x ∈ ms := by
  unfold intsOf
  rw [List.mem_map]
  exact ⟨fun ⟨y, h1, h2⟩ => by have : y = x := Int.ofNat.inj h2; rwa [← this], fun h => ⟨x, h, rfl⟩⟩
theorem rimIn_beg {L : List (List Int)} (h : Perms L) (h2 : 2 ≤ L.length) {ms : List Nat} (hm : ms ∈ partsN L) : rimIn L ms = (rimCycles L).countP (beg ms) := by
  unfold partsN classes at hm
  obtain ⟨s, hs, rfl⟩ := List.mem_map.1 hm
  rw [rimIn_count h h2, List.countP_eq_length_filter]
  refine congrArg List.length (List.filter_congr fun c hc => ?_)
  have hh := (cycTo_heads _ _ _ c hc).2
  unfold beg
  rw [Bool.eq_iff_iff, decide_eq_true_eq, mem_ints, beq_iff_eq]
  unfold member
  rw [List.mem_filter, List.mem_range, beq_iff_eq]
  exact ⟨fun e => ⟨hh, e⟩, fun e => e.2⟩
theorem beg_step {C : List (List Nat)} {ms c : List Nat} {i : Nat} (h : C[i]? = some c) : (C.take (i + 1)).countP (beg ms) = (C.take i).countP (beg ms) + if beg ms c then 1 else 0 := by
  obtain ⟨h1, rfl⟩ := List.getElem?_eq_some_iff.1 h
  rw [List.take_succ_eq_append_getElem h1, List.countP_append, List.countP_cons, List.countP_nil]
  simp
end Cv

set_option maxRecDepth 10000 in
theorem spec_l3Find2 (a : Option Addr) (c : Nat) (l : List Int) (x : Int) (w : World) (ha : RowAt w a (intCells l)) (hl : l.length ≤ 1048576) :
    Calls Tryz.prog 36 #[.slice a l.length c, .int .i64 x] w fun e w' => e = .returned (.bool (decide (x ∈ l))) ∧ w' = w := by
  have Ha := Lib.hid ha
  obtain ⟨V, hV⟩ : ∃ V, decide (x ∈ l) = V := ⟨_, rfl⟩
  rw [hV]
  have HV := Lib.hid hV
  clear ha hV
  go_enter Tryz.func36, Tryz.ntmps36
  go_wp2
  go_loopw [5] (fun iv wr => ∃ i : Nat, i ≤ l.length ∧ iv = .int .i64 i ∧ Hid (∀ j v, j < i → l[j]? = some v → v ≠ x) ∧ wr = w) (fun iv _ => l.length - (intOf iv).toNat)
  case atStart => exact ⟨0, Nat.zero_le _, rfl, Lib.hid (fun j v h => absurd h (Nat.not_lt_zero j)), rfl⟩
  case round =>
    obtain ⟨i, hi, rfl, hall, rfl⟩ := hrel
    by_cases hlt : i < l.length
    · obtain ⟨v, hv⟩ := get_some hlt
      obtain ⟨b, o, rfl, _, hcell⟩ := intCells_get? Ha.out hv
      have i0 : (0 : Int) ≤ (i : Int) := by omega
      have i1 : (i : Int) < (l.length : Int) := by omega
      have Hv := Lib.hid hv
      clear hv
      by_cases he : v = x
      · have d0 : (v == x) = true := beq_iff_eq.2 he
        have hmem : V = true := by rw [← HV.out]; exact decide_eq_true (he ▸ get_mem Hv.out)
        have Hm := Lib.hid hmem
        clear he hmem
        go_wp2
        go_ret
        exact ⟨by rw [Hm.out]; rfl, rfl⟩
      · have d0 : (v == x) = false := beq_eq_false_iff_ne.2 he
        go_wp2
        go_roundw
        case rel => exact ⟨i + 1, by omega, by go_num, Lib.hid (fun j u h hu => by
          rcases Nat.lt_succ_iff_lt_or_eq.1 h with h | rfl
          · exact hall.out j u h hu
          · rw [Hv.out] at hu; cases hu; exact he), trivial⟩
        case measure => simp [intOf]; omega
    · obtain rfl : i = l.length := by omega
      have hno : V = false := by
       rw [← HV.out]
       exact decide_eq_false fun hm => by
        obtain ⟨j, hj, e⟩ := List.getElem_of_mem hm
        exact hall.out j x hj (by rw [List.getElem?_eq_getElem hj, e]) rfl
      have Hm := Lib.hid hno
      clear hno
      go_wp2
      go_ret
      exact ⟨by rw [Hm.out]; rfl, rfl⟩

theorem sf_round {w wr W w6 : World} {lo hi og k cap : Nat} {xs us : List Value} {v6 : Value} {pa ya : Option Addr} {A B : List (List Int)}
    (hsz : hi ≤ wr.heap.size) (hog : og < lo ∨ hi ≤ og) (hb : Below w.heap.size w wr) (hgp : GridIn wr lo hi pa A) (hgy : GridIn wr lo hi ya B)
    (hown : wr.ownsRow w.heap.size 46 3 (.slice (some ⟨og, 0, none⟩) k cap) k xs)
    (hW : Below wr.heap.size wr W) (hg : W.grownBy w6 (some og)) (hk : v6.ownBlock = some og ∨ v6.ownBlock = some W.heap.size) (hown6 : w6.ownsRow w.heap.size 46 3 v6 (k + 1) us) :
    ∃ g6 c6, v6 = .slice (some ⟨g6, 0, none⟩) (k + 1) c6 ∧ (g6 < lo ∨ hi ≤ g6) ∧ hi ≤ w6.heap.size ∧ w6.ownsRow w.heap.size 46 3 (.slice (some ⟨g6, 0, none⟩) (k + 1) c6) (k + 1) us ∧ Below w.heap.size w w6 ∧ GridIn w6 lo hi pa A ∧ GridIn w6 lo hi ya B := by
  have h6 := hown6
  obtain ⟨_, ⟨_, h⟩ | ⟨g6, c6, cur, rfl, _⟩⟩ := hown6
  · omega
  have hs := hW.size
  have hlt := (hown.lt og rfl)
  refine ⟨g6, c6, rfl, ?_, Nat.le_trans (Nat.le_trans hsz hs) hg.size, h6, ?_, ?_, ?_⟩
  · rcases hk with e | e
    · have : g6 = og := Option.some.inj e
      rw [this]; exact hog
    · have : g6 = W.heap.size := Option.some.inj e
      rw [this]; exact Or.inr (Nat.le_trans hsz hs)
  · exact (hb.trans (hW.mono hb.size)).grown hg (Nat.le_trans hb.size hs) (fun j hj => by cases hj; exact hlt.1)
  · exact (hgp.below hW).only (Only.of_grown hg) (by omega)
  · exact (hgy.below hW).only (Only.of_grown hg) (by omega)
theorem two_size (w : World) (o : Obj) : (w.alloc o).heap.size = w.heap.size + 1 := by simp

set_option maxRecDepth 10000 in
set_option maxHeartbeats 2000000 in
theorem spec_CoverOf (g : Int) (a : Option Addr) (c : Nat) (L : List (List Int)) (w : World) (ha : GridAt w a L) (hL : ∀ p ∈ L, p.length ≤ 1048576) (hn : L.length ≤ 1048576) :
    Calls Tryz.prog 7 #[.int .i64 g, .slice a L.length c] w fun e w' => GivesSf w (Cv.covers g L) (decide (Cv.Act g L)) e w' := by
  have hA := spec_IsAction g a c L w ha hL hn
  by_cases hact : Cv.Act g L
  · rw [decide_eq_true hact] at hA ⊢
    have hP := hact.2.1
    have h2 : 2 ≤ L.length := by have := hact.2.2.1; omega
    have hcv : Cv.covers g L = (Cv.partsN L).map (Cv.coverOf g L) := if_pos hact
    rw [hcv]
    have hS := fun W (hb : Below w.heap.size w W) => spec_l9Parts a c L W (ha.below hb) hP
    have hR := fun W => spec_Relator 1 W
    have hrel : Dn.rel 1 = [1, 2, -1, -2] := by decide
    rw [hrel] at hR
    have hok : Cv.Ok L [1, 2, -1, -2] := by
      rw [← hrel]
      exact Cv.ok_upto.2 ⟨hP, by rw [hrel]; decide, fun x hx => by rw [hrel] at hx; exact (Cv.rim_lets h2 x hx).2⟩
    have hW := fun W (hb : Below w.heap.size w W) aw cw (hw : RowAt W aw (intCells [1, 2, -1, -2])) => spec_ActWord a aw c cw L [1, 2, -1, -2] W (ha.below hb) hL hn hw (by decide)
    rw [Cv.actW_of hok] at hW
    have hrl : (Cv.row L [1, 2, -1, -2] (Cv.deg L)).length = Cv.deg L := Cv.row_len _ _ _
    have hY := fun W ra rc (hr : RowAt W ra (intCells (Cv.row L [1, 2, -1, -2] (Cv.deg L)))) => spec_l6CyclesP ra rc (Cv.row L [1, 2, -1, -2] (Cv.deg L)) W hr (Cv.row_isP hok) (by rw [hrl]; have := hP.2.2.2.2; omega)
    have hcyc : Mp.cycles (Cv.row L [1, 2, -1, -2] (Cv.deg L)) = Mp.natRows (Cv.rimCycles L) := by rw [Cv.cycles_row hok]; rfl
    rw [hcyc] at hY
    have hfew := Nat.le_trans (Cv.parts_few (L := L)) hP.2.2.2.2
    have hrf : (Cv.rimCycles L).length ≤ 5 := Cv.liftsN_len hok
    have hheads : ∀ c ∈ Cv.rimCycles L, c ≠ [] ∧ c.headD 0 < Cv.deg L := Cv.cycTo_heads (Cv.rim L) (Cv.deg L) (Cv.deg L)
    have hdeg := hP.2.2.2.2
    have hparts := fun ms (hm : ms ∈ Cv.partsN L) => (Cv.part_of hm).2
    have hcount := fun ms (hm : ms ∈ Cv.partsN L) => Cv.rimIn_beg hP h2 hm
    generalize hPs : Cv.partsN L = Ps at *
    generalize hCs : Cv.rimCycles L = Cs at *
    have HA := Lib.hid hA; have HS := Lib.hid hS; have HR := Lib.hid hR; have HW := Lib.hid hW; have HY := Lib.hid hY
    clear hA hS hR hW hY hrl hcyc
    generalize Cv.row L [1, 2, -1, -2] (Cv.deg L) = RW at *
    go_enter Tryz.func7, Tryz.ntmps7
    go_wp2_with fail
    refine HA.out.mono ?_
    rintro e w1 ⟨rfl, hb1⟩
    have Hb1 := Lib.hid hb1; clear hb1
    have hown1 := World.ownsRow_made (base := w.heap.size) (e := 46) (size := 3) w1 #[] 0 Hb1.out.size (by unfold maxLen; omega) (by rfl)
    have hbx1 := Hb1.out.alloc Hb1.out.size (.cells #[] 46)
    have Hown1 := Lib.hid hown1; have Hbx1 := Lib.hid hbx1
    clear hown1 hbx1
    go_wp2_with fail
    refine (HS.out _ Hbx1.out).mono ?_
    rintro e w2 ⟨pa, pc, rfl, _, _, hg2, hb2⟩
    have Hown2 := Lib.hid (own_keep Hown1.out hb2 (fun k hk => (Hown1.out.lt k hk).2))
    have Hbx2 := Lib.hid (Hbx1.out.trans (hb2.mono Hbx1.out.size))
    have Hg2 := Lib.hid hg2
    have hz2 : (w1.alloc (.cells #[] 46)).heap.size ≤ w2.heap.size := hb2.size
    clear hb2 hg2
    go_wp2_with fail
    refine (HR.out _).mono ?_
    rintro e w3 ⟨ra, rc, rfl, _, _, hf3, hb3⟩
    have Hown3 := Lib.hid (own_keep Hown2.out hb3 (fun k hk => (Hown2.out.lt k hk).2))
    have Hbx3 := Lib.hid (Hbx2.out.trans (hb3.mono Hbx2.out.size))
    have Hg3 := Lib.hid (Hg2.out.below hb3)
    have Hf3 := Lib.hid hf3.row
    have hz3 : w2.heap.size ≤ w3.heap.size := hb3.size
    clear hb3 hf3
    go_wp2_with fail
    refine (HW.out _ Hbx3.out _ _ Hf3.out).mono ?_
    rintro e w4 ⟨sa, sc, rfl, _, _, hf4, hb4⟩
    have Hown4 := Lib.hid (own_keep Hown3.out hb4 (fun k hk => (Hown3.out.lt k hk).2))
    have Hbx4 := Lib.hid (Hbx3.out.trans (hb4.mono Hbx3.out.size))
    have Hg4 := Lib.hid (Hg3.out.below hb4)
    have Hf4 := Lib.hid hf4.row
    have hz4 : w3.heap.size ≤ w4.heap.size := hb4.size
    clear hb4 hf4
    go_wp2_with fail
    refine (HY.out _ _ _ Hf4.out).mono ?_
    rintro e w5 ⟨ya, yc, rfl, _, _, hg5, hb5⟩
    have hown5 := own_keep Hown4.out hb5 (fun k hk => (Hown4.out.lt k hk).2)
    have hbx5 := Hbx4.out.trans (hb5.mono Hbx4.out.size)
    have hz5 : w4.heap.size ≤ w5.heap.size := hb5.size
    have hq1 : (w1.alloc (.cells #[] 46)).heap.size = w1.heap.size + 1 := by simp
    rw [hq1] at hz2
    have hgp := (Hg4.out.below hb5).mono (lo' := w1.heap.size + 1) (hi' := w5.heap.size) (by rw [hq1]; exact Nat.le_refl _) (by omega)
    have hgy := hg5.mono (lo' := w1.heap.size + 1) (hi' := w5.heap.size) (by omega) (Nat.le_refl _)
    have hlo : w1.heap.size < w1.heap.size + 1 := by omega
    have Hownq := Lib.hid (show w5.ownsRow w.heap.size 46 3 (.slice (some ⟨w1.heap.size, 0, none⟩) 0 0) 0 (sfCells []) from hown5)
    have Hbxq := Lib.hid hbx5
    have hlh : w1.heap.size + 1 ≤ w5.heap.size := by omega
    obtain ⟨lo, hlo'⟩ : ∃ lo, w1.heap.size + 1 = lo := ⟨_, rfl⟩
    obtain ⟨hi, hhi'⟩ : ∃ hi, w5.heap.size = hi := ⟨_, rfl⟩
    rw [hlo'] at hgp hgy hlo hlh
    rw [hhi'] at hgp hgy hlh
    have Hgp := Lib.hid hgp; have Hgy := Lib.hid hgy; have Hhi := Lib.hid hhi'
    clear hgp hgy hown5 hbx5 hb5 hg5 hz2 hz3 hz4 hz5 hq1 hlo' hhi'
    have hpl : (Mp.natRows Ps).length = Ps.length := by simp [Mp.natRows]
    have hyl : (Mp.natRows Cs).length = Cs.length := by simp [Mp.natRows]
    rw [hpl, hyl]
    obtain ⟨i0, hi0, hz0, hz1, hz2⟩ := info_surf_parts
    have Hi0 := Lib.hid hi0; have Hz0 := Lib.hid hz0; have Hz1 := Lib.hid hz1; have Hz2 := Lib.hid hz2
    have Hparts := Lib.hid hparts; have Hcount := Lib.hid hcount; have Hheads := Lib.hid hheads; have Hact := Lib.hid hact
    clear hparts hcount hheads hi0 hz0 hz1 hz2 hPs hCs hpl hyl hact
    by_cases h0 : g = 0
    · subst h0
      go_wp2
      go_loopw [6, 9, 10, 11, 12] (fun ov kv _ _ _ wk => ∃ k : Nat, k ≤ Ps.length ∧ kv = .int .i64 k ∧ ∃ og cap, ov = .slice (some ⟨og, 0, none⟩) k cap ∧ (og < lo ∨ hi ≤ og) ∧ hi ≤ wk.heap.size ∧ Hid (wk.ownsRow w.heap.size 46 3 ov k (sfCells ((Ps.take k).map (Cv.coverOf 0 L)))) ∧ Hid (Below w.heap.size w wk) ∧ Hid (GridIn wk lo hi pa (Mp.natRows Ps)) ∧ Hid (GridIn wk lo hi ya (Mp.natRows Cs))) (fun _ kv _ _ _ _ => Ps.length - (intOf kv).toNat)
      case atStart => exact ⟨0, Nat.zero_le _, rfl, _, _, rfl, Or.inl hlo, by rw [Hhi.out]; exact Nat.le_refl _, Hownq, Hbxq, Hgp, Hgy⟩
      case round =>
        obtain ⟨k, hk, rfl, og, cap, rfl, hog, hsz, hown, hb, hgp, hgy⟩ := hrel
        obtain ⟨wo, hwo⟩ : ∃ wo, wo = wr := ⟨_, rfl⟩
        subst hwo
        by_cases hlt : k < Ps.length
        · obtain ⟨ms, hms⟩ := get_some hlt
          have hrow : (Mp.natRows Ps)[k]? = some (intsOf ms) := by
            have : (Mp.natRows Ps)[k]? = (Ps[k]?).map intsOf := by simp [Mp.natRows]; rfl
            rw [this, hms]; rfl
          obtain ⟨b, o, ra, rc, rfl, hbo, hcell, hra⟩ := hgp.out.grid.get hrow
          rw [intsOf_len] at hcell
          have hl5 := Hparts.out ms (get_mem hms)
          have hcnt := Hcount.out ms (get_mem hms)
          have hsn : (Ps.take (k + 1)).map (Cv.coverOf 0 L) = (Ps.take k).map (Cv.coverOf 0 L) ++ [Cv.coverOf 0 L ms] := by
            rw [List.take_add_one, hms]; simp
          have hv : Cv.coverOf 0 L ms = ((2 + (ms.length : Int) - (Cs.countP (Cv.beg ms) : Int)) / 2, 0, (Cs.countP (Cv.beg ms) : Int)) := by rw [← hcnt]; exact if_pos rfl
          have hfewb : Cs.countP (Cv.beg ms) ≤ ms.length := by rw [← hcnt]; exact Cv.rimIn_few L ms
          have hcl : sfCells ((Ps.take (k + 1)).map (Cv.coverOf 0 L)) = sfCells ((Ps.take k).map (Cv.coverOf 0 L)) ++ [.int .i64 ((2 + (ms.length : Int) - (Cs.countP (Cv.beg ms) : Int)) / 2), .int .i64 0, .int .i64 (Cs.countP (Cv.beg ms) : Int)] := by rw [hsn, sfCells_snoc, hv]
          have hF := fun W (hb2 : Below wo.heap.size wo W) (x : Int) => spec_l3Find2 ra rc (intsOf ms) x W ((hra.below (Below.refl _ _)).below hb2) (by rw [intsOf_len]; omega)
          rw [intsOf_len] at hF
          have hstep := fun i c (h : Cs[i]? = some c) => Cv.beg_step (ms := ms) h
          have hbd : ∀ i, (Cs.take i).countP (Cv.beg ms) ≤ 5 := fun i => Nat.le_trans List.countP_le_length (by rw [List.length_take]; omega)
          have hall : (Cs.take Cs.length).countP (Cv.beg ms) = Cs.countP (Cv.beg ms) := by rw [List.take_of_length_le (Nat.le_refl _)]
          have hz0 : (Cs.take 0).countP (Cv.beg ms) = 0 := rfl
          have Hbg := Lib.hid (show ∀ c, Cv.beg ms c = decide (((c.headD 0 : Nat) : Int) ∈ intsOf ms) from fun c => rfl)
          generalize ms.length = ml at *
          have k0 : (0 : Int) ≤ (k : Int) := by omega
          have k1 : (k : Int) < (Ps.length : Int) := by omega
          have hm1 : k + 1 ≤ maxLen := by unfold maxLen; omega
          have hm2 : (k + 1) * 24 ≤ 140737488355328 := by omega
          have Hm1 := Lib.hid hm1; have Hm2 := Lib.hid hm2; have Hcl := Lib.hid hcl; have Hstep := Lib.hid hstep; have Hbd := Lib.hid hbd; have Hall := Lib.hid hall; have HF := Lib.hid hF; have Hz0' := Lib.hid hz0
          have Hcellp := Lib.hid hcell
          clear hm1 hm2 hcl hsn hv hrow hms hra hcnt hstep hbd hall hF hz0
          go_wp2
          go_loopw [12] (fun iv wr => ∃ i : Nat, i ≤ Cs.length ∧ iv = .int .i64 i ∧ Hid (Blk wr wo.heap.size 46 #[.int .i64 0, .int .i64 0, .int .i64 (((Cs.take i).countP (Cv.beg ms) : Nat) : Int)]) ∧ Hid (Below wo.heap.size wo wr)) (fun iv _ => Cs.length - (intOf iv).toNat)
          case atStart => exact ⟨0, Nat.zero_le _, rfl, Lib.hid (by rw [Hz0'.out]; exact Blk.new wo _ _), Lib.hid ((Below.refl _ _).alloc (Nat.le_refl _) _)⟩
          case round =>
            obtain ⟨i, hi', rfl, hblk, hbi⟩ := hrel
            by_cases hlt2 : i < Cs.length
            · obtain ⟨cy, hcy⟩ := get_some hlt2
              have hcrow : (Mp.natRows Cs)[i]? = some (intsOf cy) := by
                have : (Mp.natRows Cs)[i]? = (Cs[i]?).map intsOf := by simp [Mp.natRows]; rfl
                rw [this, hcy]; rfl
              obtain ⟨bc, oc, qa, qc, rfl, hbc, hccell, hqa⟩ := hgy.out.grid.get hcrow
              rw [intsOf_len] at hccell
              have hne := (Hheads.out cy (get_mem hcy)).1
              have hh0 : (intsOf cy)[0]? = some (((cy.headD 0 : Nat)) : Int) := by
                cases cy with
                | nil => exact absurd rfl hne
                | cons x xs => rfl
              have hcl0 : 0 < cy.length := List.length_pos_iff.2 hne
              obtain ⟨bq, oq, rfl, hbq, hqcell⟩ := intCells_get? hqa hh0
              rw [Nat.add_zero] at hqcell
              have hst := Hstep.out i cy hcy
              have hbg := Hbg.out cy
              have hbd1 := Hbd.out i
              generalize hhd : ((cy.headD 0 : Nat) : Int) = h at *
              generalize cy.length = cl at *
              generalize hB : Cv.beg ms cy = B at *
              obtain ⟨bt, hbt⟩ : ∃ bt : Nat, (if B then 1 else 0) = bt := ⟨_, rfl⟩
              have hbt2 : (if B then (1 : Int) else 0) = (bt : Int) := by cases B <;> (simp at hbt; simp [← hbt])
              have hbt1 : bt ≤ 1 := by cases B <;> (simp at hbt; omega)
              rw [hbt] at hst
              have hFx := HF.out wr.drew (Below.drew hbi.out) h
              rw [← hbg] at hFx
              have hBx := spec_l1Bit B wr.drew
              rw [hbt2] at hBx
              generalize hCi : (Cs.take i).countP (Cv.beg ms) = Ci at *
              have hn2 : wr.drew.cell? ⟨wo.heap.size, 2, none⟩ = some (.int .i64 (Ci : Int)) := hblk.out.drew.cell 2
              have hnf : wr.drew.frozen? ⟨wo.heap.size, 2, none⟩ = false := hblk.out.drew.frozen 2
              have hbdr := Below.drew hbi.out
              have hp2 : wr.drew.cell? ⟨b, o + k, none⟩ = some (.slice ra ml rc) := by rw [hbdr.cell hbo]; exact Hcellp.out
              have hc2 : wr.drew.cell? ⟨bc, oc + i, none⟩ = some (.slice (some ⟨bq, oq, none⟩) cl qc) := by rw [hbdr.cell hbc]; exact hccell
              have hq2 : wr.drew.cell? ⟨bq, oq, none⟩ = some (.int .i64 h) := by rw [hbdr.cell hbq]; exact hqcell
              have Hblk2 := Lib.hid (hblk.out.drew.put 2 (.int .i64 ((Ci + bt : Nat) : Int)))
              have Hbe2 := Lib.hid (hbdr.setCell (p := ⟨wo.heap.size, 2, none⟩) (Nat.le_refl _) (.int .i64 ((Ci + bt : Nat) : Int)))
              have i0' : (0 : Int) ≤ (i : Int) := by omega
              have i1' : (i : Int) < (Cs.length : Int) := by omega
              have l0' : (0 : Int) < (cl : Int) := by omega
              have x0 : (0 : Int) ≤ (Ci : Int) := by omega
              have x1 : (0 : Int) ≤ (bt : Int) := by omega
              have x2 : (Ci : Int) + (bt : Int) ≤ 6 := by omega
              have x3 : IntKind.i64.wrap ((Ci : Int) + (bt : Int)) = (Ci : Int) + (bt : Int) := wrap_small (by omega) (by omega)
              have HFx := Lib.hid hFx; have HBx := Lib.hid hBx; have Hst := Lib.hid hst
              have HS0 := Lib.hid (And.intro hn2 (And.intro hp2 (And.intro hc2 hq2)))
              clear hFx hBx hst hbg hbd1 hbt hbt2 hbt1 hB hhd hCi hcy hcrow hqa hh0 hne hccell hqcell hbc hbq hn2 hp2 hc2 hq2
              go_wp2
              refine wp_region_free 17 (by kernel_rfl) rfl ?_
              refine any_head 15 15 2 (fun w' => w'.cell? ⟨wo.heap.size, 2, none⟩ = some (.int .i64 (Ci : Int)) ∧ w'.cell? ⟨b, o + k, none⟩ = some (.slice ra ml rc) ∧ w'.cell? ⟨bc, oc + i, none⟩ = some (.slice (some ⟨bq, oq, none⟩) cl qc) ∧ w'.cell? ⟨bq, oq, none⟩ = some (.int .i64 h)) rfl rfl HS0.out (fun hS => ?_)
              refine HdAny.take (i := 0) (v := ?_) rfl (by kernel_rfl) (fun _ _ _ h => h) rfl ?_ hS ?_
              rotate_left; · (intro w' hSw; go_split_ands; go_simp; try with_reducible rfl)
              try simp only [Act.put, List.setIfInBounds_toArray, List.set_cons_zero, List.set_cons_succ]
              refine HdAny.take (i := 1) (v := ?_) rfl (by kernel_rfl) (fun _ _ _ h => h) rfl ?_ hS ?_
              rotate_left; · (intro w' hSw; go_split_ands; go_simp; try with_reducible rfl)
              try simp only [Act.put, List.setIfInBounds_toArray, List.set_cons_zero, List.set_cons_succ]
              refine HdAny.take (i := 2) (v := ?_) rfl (by kernel_rfl) (fun _ _ _ h => h) rfl ?_ hS ?_
              rotate_left; · (intro w' hSw; go_split_ands; go_simp; try with_reducible rfl)
              try simp only [Act.put, List.setIfInBounds_toArray, List.set_cons_zero, List.set_cons_succ]
              refine HdAny.take (i := 3) (v := ?_) rfl (by kernel_rfl) (fun _ _ _ h => h) rfl ?_ hS ?_
              rotate_left; · (intro w' hSw; go_split_ands; go_simp; try with_reducible rfl)
              try simp only [Act.put, List.setIfInBounds_toArray, List.set_cons_zero, List.set_cons_succ]
              refine HdAny.take (i := 4) (v := ?_) rfl (by kernel_rfl) (fun _ _ _ h => h) rfl ?_ hS ?_
              rotate_left; · (intro w' hSw; go_split_ands; go_simp; try with_reducible rfl)
              try simp only [Act.put, List.setIfInBounds_toArray, List.set_cons_zero, List.set_cons_succ]
              refine HdAny.take (i := 5) (v := ?_) rfl (by kernel_rfl) (fun _ _ _ h => h) rfl ?_ hS ?_
              rotate_left; · (intro w' hSw; go_split_ands; go_simp; try with_reducible rfl)
              try simp only [Act.put, List.setIfInBounds_toArray, List.set_cons_zero, List.set_cons_succ]
              refine HdAny.take (i := 6) (v := ?_) rfl (by kernel_rfl) (fun _ _ _ h => h) rfl ?_ hS ?_
              rotate_left; · (intro w' hSw; go_split_ands; go_simp; try with_reducible rfl)
              try simp only [Act.put, List.setIfInBounds_toArray, List.set_cons_zero, List.set_cons_succ]
              refine HdAny.take (i := 7) (v := ?_) rfl (by kernel_rfl) (fun _ _ _ h => h) rfl ?_ hS ?_
              rotate_left; · (intro w' hSw; go_split_ands; go_simp; try with_reducible rfl)
              try simp only [Act.put, List.setIfInBounds_toArray, List.set_cons_zero, List.set_cons_succ]
              refine HdAny.take (i := 8) (v := ?_) rfl (by kernel_rfl) (fun _ _ _ h => h) rfl ?_ hS ?_
              rotate_left; · (intro w' hSw; go_split_ands; go_simp; try with_reducible rfl)
              try simp only [Act.put, List.setIfInBounds_toArray, List.set_cons_zero, List.set_cons_succ]
              refine HdAny.take (i := 9) (v := ?_) rfl (by kernel_rfl) (fun _ _ _ h => h) rfl ?_ hS ?_
              rotate_left; · (intro w' hSw; go_split_ands; go_simp; try with_reducible rfl)
              try simp only [Act.put, List.setIfInBounds_toArray, List.set_cons_zero, List.set_cons_succ]
              refine HdAny.take (i := 10) (v := ?_) rfl (by kernel_rfl) (fun _ _ _ h => h) rfl ?_ hS ?_
              rotate_left; · (intro w' hSw; go_split_ands; go_simp; try with_reducible rfl)
              try simp only [Act.put, List.setIfInBounds_toArray, List.set_cons_zero, List.set_cons_succ]
              refine HdAny.take (i := 11) (v := ?_) rfl (by kernel_rfl) (fun _ _ _ h => h) rfl ?_ hS ?_
              rotate_left; · (intro w' hSw; go_split_ands; go_simp; try with_reducible rfl)
              try simp only [Act.put, List.setIfInBounds_toArray, List.set_cons_zero, List.set_cons_succ]
              refine HdAny.one (i := 12) rfl (by kernel_rfl) (fun K hK => ?_)
              go_simp
              go_at_call 36
              refine HFx.out.mono ?_
              rintro e w7 ⟨rfl, hw7⟩
              rw [hw7]; clear hw7 w7
              go_simp
              refine hK.out _ _ hS (fun hS => ?_)
              clear hK K
              try simp only [Act.put, List.setIfInBounds_toArray, List.set_cons_zero, List.set_cons_succ]
              refine HdAny.one (i := 13) rfl (by kernel_rfl) (fun K hK => ?_)
              go_simp
              go_at_call 35
              refine HBx.out.mono ?_
              rintro e w7 ⟨rfl, hw7⟩
              rw [hw7]; clear hw7 w7
              go_simp
              refine hK.out _ _ hS (fun hS => ?_)
              clear hK K
              try simp only [Act.put, List.setIfInBounds_toArray, List.set_cons_zero, List.set_cons_succ]
              refine HdAny.take (i := 14) (v := ?_) rfl (by kernel_rfl) (fun _ _ _ h => h) rfl ?_ hS ?_
              rotate_left; · (intro w' hSw; go_split_ands; go_simp; try with_reducible rfl)
              try simp only [Act.put, List.setIfInBounds_toArray, List.set_cons_zero, List.set_cons_succ]
              refine HdAny.done (by kernel_rfl) ?_
              simp only [List.drop_succ_cons, List.drop_zero]
              go_wp2
              go_roundw
              case rel => exact ⟨i + 1, by omega, by go_num, Lib.hid (by rw [Hst.out]; exact Hblk2.out), Hbe2⟩
              case measure => simp [intOf]; omega
            · obtain rfl : i = Cs.length := by omega
              rw [Hall.out] at hblk
              generalize Cs.countP (Cv.beg ms) = B at *
              have b0 : wr.cell? ⟨wo.heap.size, 0, none⟩ = some (.int .i64 0) := hblk.out.cell 0
              have b1 : wr.cell? ⟨wo.heap.size, 1, none⟩ = some (.int .i64 0) := hblk.out.cell 1
              have b2 : wr.cell? ⟨wo.heap.size, 2, none⟩ = some (.int .i64 (B : Int)) := hblk.out.cell 2
              have f0 := hblk.out.frozen 0
              obtain ⟨T, hT⟩ : ∃ T, 2 + (ml : Int) - (B : Int) = T := ⟨_, rfl⟩
              have t0 : (0 : Int) ≤ T := by omega
              have t1 : T ≤ 7 := by omega
              have Hcl2 := Hcl.out
              rw [hT] at Hcl2
              obtain ⟨H, hH⟩ : ∃ H, T / 2 = H := ⟨_, rfl⟩
              rw [hH] at Hcl2
              have hd : T.tdiv 2 = H := by rw [Int.tdiv_eq_ediv_of_nonneg t0]; exact hH
              have q0 : (0 : Int) ≤ H := by omega
              have q1 : H ≤ 7 := by omega
              have wa : IntKind.i64.wrap (2 + (ml : Int)) = 2 + (ml : Int) := wrap_small (by omega) (by omega)
              have wb : IntKind.i64.wrap (2 + (ml : Int) - (B : Int)) = T := by rw [hT]; exact wrap_small (by omega) (by omega)
              have wc : IntKind.i64.wrap H = H := wrap_small (by omega) (by omega)
              have v0 : (0 : Int) ≤ (ml : Int) := by omega
              have v1 : (ml : Int) ≤ 5 := by omega
              have Hcl3 := Lib.hid Hcl2
              have hbs := hbi.out.setCell (p := ⟨wo.heap.size, 0, none⟩) (Nat.le_refl _) (.int .i64 H)
              have hW := hbs.alloc hbs.size (.cells #[.int .i64 H, .int .i64 0, .int .i64 (B : Int)] 46)
              have hownS := own_keep hown.out hbs (fun j hj => (hown.out.lt j hj).2)
              have Hnext := Lib.hid (fun (v6 : Value) (w6 : World) us hown6 hg6 hk6 => sf_round (v6 := v6) (w6 := w6) (us := us) hsz hog hb.out hgp.out hgy.out hown.out hW hg6 hk6 hown6)
              have Hs1 := Lib.hid (show (wr.setCell ⟨wo.heap.size, 0, none⟩ (.int .i64 H)).heap.size = wr.heap.size by simp)
              have Hbs := Lib.hid (show w.heap.size ≤ (wr.setCell ⟨wo.heap.size, 0, none⟩ (.int .i64 H)).heap.size by have h1 := hbs.size; have h2 := hb.out.size; omega)
              have Hown := Lib.hid hownS
              clear hbs hW hownS hT hH hsz hog Hcl2 hblk
              go_wp2_with (at_builtin; refine append_surf rfl (.tmp 74) (.tmp 76) 27 rfl w.heap.size 46 i0 _ 24 Tryz.underlying27 Hi0.out Hz0.out Hz1.out Hz2.out (by rfl) _ _ _ rfl Hown.out rfl rfl rfl 1 (by rw [Hs1.out]; rfl) Hm1.out Hm2.out Hbs.out ?_; intro v6 w6 hown6 hg6 hk6)
              obtain ⟨g6, c6, rfl, ho6, hs6, hw6, hb6, hgp6, hgy6⟩ := Hnext.out v6 w6 _ hown6 hg6 hk6
              have Hw6 := Lib.hid hw6; have Hb6 := Lib.hid hb6; have Hgp6 := Lib.hid hgp6; have Hgy6 := Lib.hid hgy6
              clear hown6 hg6 hk6 hw6 hb6 hgp6 hgy6
              go_wp2
              go_roundw
              case rel => exact ⟨k + 1, by omega, by go_num, g6, c6, rfl, ho6, hs6, Lib.hid (by rw [Hcl3.out]; exact Hw6.out), Hb6, Hgp6, Hgy6⟩
              case measure => simp [intOf]; omega
        · obtain rfl : k = Ps.length := by omega
          have hw := hown.out
          rw [List.take_of_length_le (Nat.le_refl _)] at hw
          have Hw := Lib.hid hw
          clear hw
          go_wp2
          go_ret2
          exact ⟨_, rfl, by rw [List.length_map]; exact Hw.out, hb.out⟩
    · have dz : (g == 0) = false := beq_eq_false_iff_ne.2 h0
      have hg12 : g = 1 ∨ g = 2 := by have := Hact.out.1; omega
      go_wp2
      go_loopw [6, 9, 10, 11, 12] (fun ov kv _ _ _ wk => ∃ k : Nat, k ≤ Ps.length ∧ kv = .int .i64 k ∧ ∃ og cap, ov = .slice (some ⟨og, 0, none⟩) k cap ∧ (og < lo ∨ hi ≤ og) ∧ hi ≤ wk.heap.size ∧ Hid (wk.ownsRow w.heap.size 46 3 ov k (sfCells ((Ps.take k).map (Cv.coverOf g L)))) ∧ Hid (Below w.heap.size w wk) ∧ Hid (GridIn wk lo hi pa (Mp.natRows Ps)) ∧ Hid (GridIn wk lo hi ya (Mp.natRows Cs))) (fun _ kv _ _ _ _ => Ps.length - (intOf kv).toNat)
      case atStart => exact ⟨0, Nat.zero_le _, rfl, _, _, rfl, Or.inl hlo, by rw [Hhi.out]; exact Nat.le_refl _, Hownq, Hbxq, Hgp, Hgy⟩
      case round =>
        obtain ⟨k, hk, rfl, og, cap, rfl, hog, hsz, hown, hb, hgp, hgy⟩ := hrel
        by_cases hlt : k < Ps.length
        · obtain ⟨ms, hms⟩ := get_some hlt
          have hrow : (Mp.natRows Ps)[k]? = some (intsOf ms) := by
            have : (Mp.natRows Ps)[k]? = (Ps[k]?).map intsOf := by simp [Mp.natRows]; rfl
            rw [this, hms]; rfl
          obtain ⟨b, o, ra, rc, rfl, hbo, hcell, hra⟩ := hgp.out.grid.get hrow
          rw [intsOf_len] at hcell
          have hl5 := Hparts.out ms (get_mem hms)
          have hsn : (Ps.take (k + 1)).map (Cv.coverOf g L) = (Ps.take k).map (Cv.coverOf g L) ++ [Cv.coverOf g L ms] := by
            rw [List.take_add_one, hms]; simp
          have hv : Cv.coverOf g L ms = (1 + (ms.length : Int) * (g - 1), 0, 0) := if_neg h0
          have hcl : sfCells ((Ps.take (k + 1)).map (Cv.coverOf g L)) = sfCells ((Ps.take k).map (Cv.coverOf g L)) ++ [.int .i64 (1 + (ms.length : Int) * (g - 1)), .int .i64 0, .int .i64 0] := by rw [hsn, sfCells_snoc, hv]
          generalize ms.length = ml at *
          obtain ⟨G1, hG1⟩ : ∃ G1, g - 1 = G1 := ⟨_, rfl⟩
          rw [hG1] at hcl
          obtain ⟨Z, hZ⟩ : ∃ Z, (ml : Int) * G1 = Z := ⟨_, rfl⟩
          rw [hZ] at hcl
          obtain ⟨H, hH⟩ : ∃ H, 1 + Z = H := ⟨_, rfl⟩
          rw [hH] at hcl
          have hZb : 0 ≤ Z ∧ Z ≤ 5 := by
            rcases hg12 with e | e
            · have : G1 = 0 := by omega
              rw [← hZ, this]; omega
            · have : G1 = 1 := by omega
              rw [← hZ, this]; omega
          have wg : IntKind.i64.wrap (g - 1) = G1 := by rw [hG1]; exact wrap_small (by omega) (by omega)
          have wm : IntKind.i64.wrap ((ml : Int) * G1) = Z := by rw [hZ]; exact wrap_small (by omega) (by omega)
          have wh : IntKind.i64.wrap (1 + Z) = H := by rw [hH]; exact wrap_small (by omega) (by omega)
          have k0 : (0 : Int) ≤ (k : Int) := by omega
          have k1 : (k : Int) < (Ps.length : Int) := by omega
          have hm1 : k + 1 ≤ maxLen := by unfold maxLen; omega
          have hm2 : (k + 1) * 24 ≤ 140737488355328 := by omega
          have Hm1 := Lib.hid hm1; have Hm2 := Lib.hid hm2; have Hcl := Lib.hid hcl
          clear hm1 hm2 hcl hsn hv hrow hms hra hG1 hZ hH hZb hl5
          have hW := ((Below.refl wr.heap.size wr).alloc (Nat.le_refl _) (.cells #[.int .i64 H, .int .i64 0, .int .i64 0] 46)).alloc (by simp) (.cells #[.int .i64 H, .int .i64 0, .int .i64 0] 46)
          have Hnext := Lib.hid (fun (v6 : Value) (w6 : World) us hown6 hg6 hk6 => sf_round (v6 := v6) (w6 := w6) (us := us) hsz hog hb.out hgp.out hgy.out hown.out hW hg6 hk6 hown6)
          have Hs1 := Lib.hid (two_size wr (.cells #[.int .i64 H, .int .i64 0, .int .i64 0] 46))
          have Hbs := Lib.hid (show w.heap.size ≤ (wr.alloc (.cells #[.int .i64 H, .int .i64 0, .int .i64 0] 46)).heap.size by rw [two_size]; have := hb.out.size; omega)
          have Hown := Lib.hid (hown.out.alloc (.cells #[.int .i64 H, .int .i64 0, .int .i64 0] 46))
          clear hW hsz hog
          go_wp2_with (at_builtin; refine append_surf rfl (.tmp 74) (.tmp 76) 27 rfl w.heap.size 46 i0 _ 24 Tryz.underlying27 Hi0.out Hz0.out Hz1.out Hz2.out (by rfl) _ _ _ rfl Hown.out rfl rfl rfl 1 (by rw [Hs1.out]; rfl) Hm1.out Hm2.out Hbs.out ?_; intro v6 w6 hown6 hg6 hk6)
          obtain ⟨g6, c6, rfl, ho6, hs6, hw6, hb6, hgp6, hgy6⟩ := Hnext.out v6 w6 _ hown6 hg6 hk6
          have Hw6 := Lib.hid hw6; have Hb6 := Lib.hid hb6; have Hgp6 := Lib.hid hgp6; have Hgy6 := Lib.hid hgy6
          clear hown6 hg6 hk6 hw6 hb6 hgp6 hgy6
          go_wp2
          go_roundw
          case rel => exact ⟨k + 1, by omega, by go_num, g6, c6, rfl, ho6, hs6, Lib.hid (by rw [Hcl.out]; exact Hw6.out), Hb6, Hgp6, Hgy6⟩
          case measure => simp [intOf]; omega
        · obtain rfl : k = Ps.length := by omega
          have hw := hown.out
          rw [List.take_of_length_le (Nat.le_refl _)] at hw
          have Hw := Lib.hid hw
          clear hw
          go_wp2
          go_ret2
          exact ⟨_, rfl, by rw [List.length_map]; exact Hw.out, hb.out⟩
  · rw [decide_eq_false hact] at hA ⊢
    have hcv : Cv.covers g L = [] := if_neg hact
    rw [hcv]
    have HA := Lib.hid hA
    clear hA hact ha hcv
    go_enter Tryz.func7, Tryz.ntmps7
    go_wp2_with fail
    refine HA.out.mono ?_
    rintro e w1 ⟨rfl, hb1⟩
    have Hb1 := Lib.hid hb1; clear hb1
    go_wp2
    go_ret2
    exact ⟨_, rfl, World.ownsRow_made (base := w.heap.size) (e := 46) (size := 3) w1 #[] 0 Hb1.out.size (by unfold maxLen; omega) (by rfl), Hb1.out.alloc Hb1.out.size _⟩
end Go.Proofs.YtamgimdjnmcpaaaGreat
