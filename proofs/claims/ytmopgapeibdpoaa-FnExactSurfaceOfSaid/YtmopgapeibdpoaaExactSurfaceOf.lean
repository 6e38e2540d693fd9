/-
  At every argument the program's SurfaceOf returns what the model returns, writes into no argument, and its answer owns its memory.
-/
import Derived.Test.YtmopgapeibdpoaaBase
import Derived.Test.YtmopgapeibdpoaaLow
import Derived.Test.YtmopgapeibdpoaaSlice
import Derived.Test.YtmopgapeibdpoaaIntRow
import Derived.Test.YtmopgapeibdpoaaInts
import Derived.Test.YtmopgapeibdpoaaReadInts
import Derived.Test.YtmopgapeibdpoaaGrid
import Derived.Test.YtmopgapeibdpoaaGridWalk
import Derived.Test.YtmopgapeibdpoaaGridWalk2
import Derived.Test.YtmopgapeibdpoaaGridMark
import Derived.Test.YtmopgapeibdpoaaReadRows
import Derived.Test.YtmopgapeibdpoaaWord
import Derived.Test.YtmopgapeibdpoaaGlue
import Derived.Test.YtmopgapeibdpoaaIsWord
import Derived.Test.YtmopgapeibdpoaaUses
import Derived.Test.YtmopgapeibdpoaaUses2
import Derived.Test.YtmopgapeibdpoaaIsGluing
import Derived.Test.YtmopgapeibdpoaaOwn
import Derived.Test.YtmopgapeibdpoaaLetters
import Derived.Test.YtmopgapeibdpoaaClass
import Derived.Test.YtmopgapeibdpoaaLab
import Derived.Test.YtmopgapeibdpoaaEnds
import Derived.Test.YtmopgapeibdpoaaVert
import Derived.Test.YtmopgapeibdpoaaTri
import Derived.Test.YtmopgapeibdpoaaParts
import Derived.Test.YtmopgapeibdpoaaBorders
import Derived.Test.YtmopgapeibdpoaaTwo
import Derived.Test.YtmopgapeibdpoaaTwoWalk
import Derived.Test.YtmopgapeibdpoaaSurf
import Derived.Test.YtmopgapeibdpoaaSurfI
import Derived.Test.YtmopgapeibdpoaaSurfSum
import Derived.Test.YtmopgapeibdpoaaSurfOf
import Derived.Deep.DeepWitnessRowRef
import Derived.OpenShut
import Derived.Deep.DeepHandedRow
import Derived.LaidMore
namespace Go.Proofs.Ytmopgapeibdpoaa.fnExactSurfaceOf
open Go.ChangeShapes Go.WideShapes Go.ChangeAt Go.RowKit Go.Sort
open Go.ChangeMaps (open_string)

set_option maxRecDepth 10000 in
set_option maxHeartbeats 2000000 in
theorem law (aG : Option Addr) (cG : Nat) (LG : List (List Int)) (w : World) (hhG : GridAt w aG LG ∧ LG.length ≤ maxLen ∧ (∀ r ∈ LG, r.length ≤ maxLen) ∧ ∀ r ∈ LG, I64s r) :
    Calls Try.prog 5 #[.slice aG LG.length cG] w fun e w' => e = .returned (.bool true) ∧ Below w.heap.size w w' := by
  have hB0 := Below.refl w.heap.size w
  obtain ⟨hAG, hmG, hrG, hIG⟩ := hhG
  have hAG := Lib.hid hAG
  have hIG := Lib.hid hIG
  have hMG := Lib.hid (show LG.length ≤ 9223372036854775807 ∧ ∀ r ∈ LG, r.length ≤ 9223372036854775807 from ⟨hmG, hrG⟩); clear hrG
  unfold maxLen at hmG
  by_cases hfG : tot LG ≤ 1048576
  · skip
    have hLG := Lib.hid (show tot LG ≤ 1048576 by omega)
    have hFG := Lib.hid hfG; clear hfG
    have hSG := Lib.hid (show sumLen LG ≤ 1048576 by have := hLG.out; unfold tot at this; omega)
    have hTG : LG.length ≤ 1048576 := by have := hLG.out; unfold tot at this; omega
    have c_spec := fun (aaG : Option Addr) (ccG : Nat) (W : World) (hrG : GridAt W aaG LG) => spec_SurfaceOf aaG ccG LG W hrG hLG.out
    have c_impl := fun (aaG : Option Addr) (ccG : Nat) (W : World) (hrG : GridAt W aaG LG) => impl_SurfaceOf aaG ccG LG W hrG hLG.out
    generalize Surf.ofS LG = S0 at *
    generalize hV1 : (decide (Glue.numParts LG = 1)) = S1 at *
    clear hV1
    have Hs := Lib.hid c_spec; have Hi := Lib.hid c_impl; clear c_spec c_impl
    go_enter Try.func5, Try.ntmps5
    go_wp2_with fail
    refine (szIntSS_fit aG cG 1048576 LG w (hAG.out.below hB0) hMG.out (by omega) hFG.out).mono ?_
    rintro e w1 ⟨rfl, h1⟩
    have h2 := Lib.hid (h1.size)
    have hB3 : Below w.heap.size w w1 := hB0.trans (h1.mono hB0.size)
    clear h1
    go_wp2_with fail
    refine (toIntSS aG cG LG w1 (hAG.out.below hB3) hLG.out).mono ?_
    rintro e w2 ⟨rfl, h5, h6⟩
    have h7 := Lib.hid (h5); clear h5
    have h8 := Lib.hid (h6.size)
    have hB9 : Below w.heap.size w w2 := hB3.trans (h6.mono hB3.size)
    clear h6
    go_wp2_with fail
    refine (Hs.out (some ⟨w1.heap.size, 0, none⟩) LG.length w2 h7.out.grid).mono ?_
    rintro e w3 ⟨rfl, h10⟩
    have h11 := Lib.hid (h10.size)
    have hB12 : Below w.heap.size w w3 := hB9.trans (h10.mono hB9.size)
    have h13 := Lib.hid (h7.out.below h10); clear h7
    clear h10
    clear h13
    have h14 : Below w3.heap.size w3 (w3.alloc (.cells #[.int .i64 S0.1, .int .i64 S0.2.1, .int .i64 S0.2.2] 25)) := (Below.refl _ _).alloc (Nat.le_refl _) _
    have h15 := Lib.hid (h14.size)
    have hB16 : Below w.heap.size w (w3.alloc (.cells #[.int .i64 S0.1, .int .i64 S0.2.1, .int .i64 S0.2.2] 25)) := hB12.trans (h14.mono hB12.size)
    clear h14
    have h17 := Lib.hid (show (w3.alloc (.cells #[.int .i64 S0.1, .int .i64 S0.2.1, .int .i64 S0.2.2] 25)).heap.size = w3.heap.size + 1 from by simp)
    have h18 := Lib.hid (show Blk (w3.alloc (.cells #[.int .i64 S0.1, .int .i64 S0.2.1, .int .i64 S0.2.2] 25)) w3.heap.size 25 #[.int .i64 S0.1, .int .i64 S0.2.1, .int .i64 S0.2.2] from Blk.new w3 _ _)
    obtain ⟨q19_0, q19_1, q19_2, q19_3, q19_4, q19_5⟩ := h18.out.six
    go_wp2_with fail
    refine (toIntSS aG cG LG (w3.alloc (.cells #[.int .i64 S0.1, .int .i64 S0.2.1, .int .i64 S0.2.2] 25)) (hAG.out.below hB16) hLG.out).mono ?_
    rintro e w4 ⟨rfl, h20, h21⟩
    rw [show (w3.alloc (.cells #[.int .i64 S0.1, .int .i64 S0.2.1, .int .i64 S0.2.2] 25)).heap.size = w3.heap.size + 1 from by simp] at h20
    have h22 := Lib.hid (h20); clear h20
    have h23 := Lib.hid (h21.size)
    have hB24 : Below w.heap.size w w4 := hB16.trans (h21.mono hB16.size)
    have h25 := Lib.hid (h18.out.below h21 h18.out.lt); clear h18
    clear q19_0 q19_1 q19_2 q19_3 q19_4 q19_5
    obtain ⟨q26_0, q26_1, q26_2, q26_3, q26_4, q26_5⟩ := h25.out.six
    clear h21
    go_wp2_with fail
    refine (Hi.out (some ⟨(w3.heap.size + 1), 0, none⟩) LG.length w4 h22.out.grid).mono ?_
    rintro e w5 ⟨rfl, h27⟩
    have h28 := Lib.hid (h27.size)
    have hB29 : Below w.heap.size w w5 := hB24.trans (h27.mono hB24.size)
    have h30 := Lib.hid (h22.out.below h27); clear h22
    have h31 := Lib.hid (h25.out.below h27 h25.out.lt); clear h25
    clear q26_0 q26_1 q26_2 q26_3 q26_4 q26_5
    obtain ⟨q32_0, q32_1, q32_2, q32_3, q32_4, q32_5⟩ := h31.out.six
    clear h27
    have h33 : Below w5.heap.size w5 (w5.alloc (.cells #[.int .i64 S0.1, .int .i64 S0.2.1, .int .i64 S0.2.2] 25)) := (Below.refl _ _).alloc (Nat.le_refl _) _
    have h34 := Lib.hid (h33.size)
    have hB35 : Below w.heap.size w (w5.alloc (.cells #[.int .i64 S0.1, .int .i64 S0.2.1, .int .i64 S0.2.2] 25)) := hB29.trans (h33.mono hB29.size)
    have h36 := Lib.hid (h30.out.below h33); clear h30
    have h37 := Lib.hid (h31.out.below h33 h31.out.lt); clear h31
    clear q32_0 q32_1 q32_2 q32_3 q32_4 q32_5
    obtain ⟨q38_0, q38_1, q38_2, q38_3, q38_4, q38_5⟩ := h37.out.six
    clear h33
    have h39 := Lib.hid (show (w5.alloc (.cells #[.int .i64 S0.1, .int .i64 S0.2.1, .int .i64 S0.2.2] 25)).heap.size = w5.heap.size + 1 from by simp)
    have h40 := Lib.hid (show Blk (w5.alloc (.cells #[.int .i64 S0.1, .int .i64 S0.2.1, .int .i64 S0.2.2] 25)) w5.heap.size 25 #[.int .i64 S0.1, .int .i64 S0.2.1, .int .i64 S0.2.2] from Blk.new w5 _ _)
    clear q38_0 q38_1 q38_2 q38_3 q38_4 q38_5
    obtain ⟨q41_0, q41_1, q41_2, q41_3, q41_4, q41_5⟩ := h37.out.six
    obtain ⟨q42_0, q42_1, q42_2, q42_3, q42_4, q42_5⟩ := h40.out.six
    go_wp2_with fail
    refine (eqSurface S0.1 S0.2.1 S0.2.2 _).mono ?_
    rintro e w6 ⟨rfl, h43⟩
    have h44 := Lib.hid (h43.size)
    have hB45 : Below w.heap.size w w6 := hB35.trans (h43.mono hB35.size)
    have h46 := Lib.hid (h36.out.below h43); clear h36
    have h47 := Lib.hid (h37.out.below h43 h37.out.lt); clear h37
    have h48 := Lib.hid (h40.out.below h43 h40.out.lt); clear h40
    clear q41_0 q41_1 q41_2 q41_3 q41_4 q41_5
    obtain ⟨q49_0, q49_1, q49_2, q49_3, q49_4, q49_5⟩ := h47.out.six
    clear q42_0 q42_1 q42_2 q42_3 q42_4 q42_5
    obtain ⟨q50_0, q50_1, q50_2, q50_3, q50_4, q50_5⟩ := h48.out.six
    clear h43
    go_wp2_with fail
    refine (toIntSS aG cG LG w6 (hAG.out.below hB45) hLG.out).mono ?_
    rintro e w7 ⟨rfl, h52, h53⟩
    have h54 := Lib.hid (h52); clear h52
    have h55 := Lib.hid (h53.size)
    have hB56 : Below w.heap.size w w7 := hB45.trans (h53.mono hB45.size)
    have h57 := Lib.hid (h46.out.below h53); clear h46
    have h58 := Lib.hid (h47.out.below h53 h47.out.lt); clear h47
    have h59 := Lib.hid (h48.out.below h53 h48.out.lt); clear h48
    clear q49_0 q49_1 q49_2 q49_3 q49_4 q49_5
    obtain ⟨q60_0, q60_1, q60_2, q60_3, q60_4, q60_5⟩ := h58.out.six
    clear q50_0 q50_1 q50_2 q50_3 q50_4 q50_5
    obtain ⟨q61_0, q61_1, q61_2, q61_3, q61_4, q61_5⟩ := h59.out.six
    clear h53
    go_wp2_with fail
    refine (eqIntSS (some ⟨(w3.heap.size + 1), 0, none⟩) (some ⟨w6.heap.size, 0, none⟩) LG.length LG.length LG w7 h57.out.grid h54.out.grid (Nat.le_trans hLG.out (by decide))).mono ?_
    rintro e w8 ⟨rfl, h62⟩
    have h63 := Lib.hid (h62.size)
    have hB64 : Below w.heap.size w w8 := hB56.trans (h62.mono hB56.size)
    have h65 := Lib.hid (h57.out.below h62); clear h57
    have h66 := Lib.hid (h54.out.below h62); clear h54
    have h67 := Lib.hid (h58.out.below h62 h58.out.lt); clear h58
    have h68 := Lib.hid (h59.out.below h62 h59.out.lt); clear h59
    clear q60_0 q60_1 q60_2 q60_3 q60_4 q60_5
    obtain ⟨q69_0, q69_1, q69_2, q69_3, q69_4, q69_5⟩ := h67.out.six
    clear q61_0 q61_1 q61_2 q61_3 q61_4 q61_5
    obtain ⟨q70_0, q70_1, q70_2, q70_3, q70_4, q70_5⟩ := h68.out.six
    clear h62
    clear h66
    go_wp2
    go_ret
    exact ⟨rfl, hB64⟩
  · have hLG := Lib.hid hfG
    clear hfG
    go_enter Try.func5, Try.ntmps5
    go_wp2_with fail
    refine (szIntSS_big aG cG 1048576 LG w (hAG.out.below hB0) hMG.out (by omega) hLG.out).mono ?_
    rintro e w1 ⟨rfl, h71⟩
    have h72 := Lib.hid (h71.size)
    have hB73 : Below w.heap.size w w1 := hB0.trans (h71.mono hB0.size)
    clear h71
    go_wp2
    go_ret
    exact ⟨rfl, hB73⟩

set_option maxRecDepth 100000 in
theorem contract (H : Type) (enc : TypeId × Value → H) (W : World) (base : Nat) (args : Array Value) (ds gs : List (DataW H)) (before : List MemPlace)
    (hval : ∀ (j : Nat) t v, Try.f5.params[j]? = some t → args[j]? = some v → Value.okWide Try.prog W .any base t v)
    (hW : DataW.Whole enc Try.prog Try.f5.params.toList Rows.fnExactSurfaceOfSpec.vars false W args.toList ds gs before) :
    Calls Try.prog 5 args W fun e W' => ∃ v, e = .returned v ∧ Rows.fnExactSurfaceOfSpec.post enc Try.prog Try.f5 false true false false W args v W' := by
  have hW' := hW
  obtain ⟨p, q, hA0, hV, rfl, hfz, hnd⟩ := hW
  have hA : DataW.TrodAll enc Try.prog W 0 (fun _ => true) true Try.f5.params.toList args.toList ds p := hA0
  rw [Try.params5] at hA hval
  obtain ⟨v0, vs0, d0, ds0, p0, q0, hargs, rfl, rfl, h0, r0⟩ := trodAll_cons hA
  obtain ⟨rfl, rfl, rfl⟩ := trodAll_nil r0
  obtain rfl : args = #[v0] := by cases args; simp_all
  obtain ⟨rfl, rfl⟩ := trodVars_none hV
  have k0 := h0
  obtain ⟨aG, cG, lG, rfl, wG⟩ := Read.rows_of (hval 0 29 v0 rfl rfl) h0
  clear hA0
  simp only [List.append_nil] at hW'
  refine (law aG cG lG W wG).mono fun e W' ⟨he, hg⟩ => ?_
  subst he
  exact ⟨_, rfl, post_of_below (pv := []) hW' (fun _ _ _ => trodAll_cons_mk (shut_bool Try.underlying4 _) trodAll_mk0)
    (fun sp hs => trodAll_cons_mk (trod_keeps (t := 29) (by kernel_rfl) (by kernel_rfl) (by kernel_rfl) k0 hg (fun x hx => hW'.lt x (by simp_all)) (fun x hx => hs x (by simp_all))) (trodAll_mk0))
    (fun _ _ => rfl) (by simp) hg (ok_one (by kernel_rfl) rfl (okWide_bool_mk Try.underlying4 _))⟩

theorem reads (os : Os) {H : Type} (enc : TypeId × Value → H) : ∃ places, DataW.whole enc Try.prog ((World.holding Try.prog os ⟨#[], #[], []⟩).forCall (fun _ _ => 0) ⟨#[], #[.slice none 0 0], []⟩).memory Try.f5.params.toList Rows.fnExactSurfaceOfSpec.vars false (#[.slice none 0 0] : Array Value).toList 8 = some ([.nil], [], places) :=
  ⟨[], by kernel_rfl⟩

set_option maxRecDepth 100000 in
theorem lifted (os : Os) (started : os.Started) (H : Type) (enc : TypeId × Value → H) (F : Stop.Interp) :
    ReturnsInHanded {} Try.checked os 5 .any ((OpenSpec.ofChange Rows.fnExactSurfaceOfSpec).preRow enc Try.prog Try.f5 Rows.fnExactSurfaceOfRow.domain false Rows.fnExactSurfaceOfRow.laid) (((OpenSpec.ofChange Rows.fnExactSurfaceOfSpec).at F).post enc Try.prog Try.f5 false true false false) := by
  obtain ⟨places, hx⟩ := reads os enc
  refine returnsInHanded_of_row (C := Try.checked) (s := OpenSpec.ofChange Rows.fnExactSurfaceOfSpec) Low.own started (by kernel_rfl) Try.func5
    (witness_row_at (enc := enc) (C := Try.checked) false (World.holding Try.prog os ⟨#[], #[], []⟩) #[.slice none 0 0] rfl (by kernel_rfl) (by kernel_rfl) (by kernel_rfl)
      (OpenSpec.preRow_of_cond 8 hx (by kernel_rfl) (fun k hk => by cases hk) (by kernel_rfl) (laidMet_nil _ _))) ?_
  intro W base args ds gs before hval hW _ _ _ hL hShaped _
  exact contract H enc W base args ds gs before hval hW 

theorem said : Rows.FnExactSurfaceOfSaid :=
  OpenClaim.holds_of_cond 5 Try.f5 rfl rfl rfl rfl rfl rfl rfl ⟨rfl, rfl, rfl, rfl, rfl⟩ rfl rfl rfl rfl rfl (by kernel_rfl) Try.func5 (by kernel_rfl)
    (of_decide_eq_true (by kernel_rfl)) (by unfold Func.isWrapper; first | (rw [if_pos (by decide +kernel)]; kernel_rfl) | (rw [if_neg (by decide +kernel)]; exact ⟨rfl, rfl⟩))
    (fun os started H enc _ F => by rw [OpenClaim.pre_eq_preRow]; exact lifted os started H enc F)
end Go.Proofs.Ytmopgapeibdpoaa.fnExactSurfaceOf
