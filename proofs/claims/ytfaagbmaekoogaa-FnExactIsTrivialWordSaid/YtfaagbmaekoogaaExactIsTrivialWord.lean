/-
  At every argument the program's IsTrivialWord returns what the model returns, writes into no argument, and its answer owns its memory.
-/
import Derived.Test.YtfaagbmaekoogaaBase
import Derived.Test.YtfaagbmaekoogaaLow
import Derived.Test.YtfaagbmaekoogaaSlice
import Derived.Test.YtfaagbmaekoogaaIntRow
import Derived.Test.YtfaagbmaekoogaaInts
import Derived.Test.YtfaagbmaekoogaaOwn
import Derived.Test.YtfaagbmaekoogaaGrid
import Derived.Test.YtfaagbmaekoogaaGridWalk
import Derived.Test.YtfaagbmaekoogaaGridWalk2
import Derived.Test.YtfaagbmaekoogaaGridMark
import Derived.Test.YtfaagbmaekoogaaAppend
import Derived.Test.YtfaagbmaekoogaaGridRows
import Derived.Test.YtfaagbmaekoogaaIsWord
import Derived.Test.YtfaagbmaekoogaaWord
import Derived.Test.YtfaagbmaekoogaaGrp
import Derived.Test.YtfaagbmaekoogaaGrpX
import Derived.Test.YtfaagbmaekoogaaReadInts
import Derived.Deep.DeepWitnessRowRef
import Derived.OpenShut
import Derived.Deep.DeepHandedRow
import Derived.LaidMore
namespace Go.Proofs.Ytfaagbmaekoogaa.fnExactIsTrivialWord
open Go.ChangeShapes Go.WideShapes Go.ChangeAt Go.RowKit Go.Sort
open Go.ChangeMaps (open_string)

set_option maxRecDepth 10000 in
set_option maxHeartbeats 2000000 in
theorem law (vG : Int) (hG0 : -9223372036854775808 ≤ vG) (hG1 : vG ≤ 9223372036854775807) (aW : Option Addr) (cW : Nat) (lW : List Int) (w : World) (hhW : RowAt w aW (intCells lW) ∧ lW.length ≤ maxLen ∧ I64s lW) :
    Calls Try.prog 8 #[.int .i64 vG, .slice aW lW.length cW] w fun e w' => e = .returned (.bool true) ∧ Below w.heap.size w w' := by
  have hZB0 := Below.refl w.heap.size w
  obtain ⟨hAW, hMW, hIW⟩ := hhW
  have hAW := Lib.hid hAW
  have hIW := Lib.hid hIW
  unfold maxLen at hMW
  by_cases hlW : lW.length ≤ 1048576
  · skip
    have hLW := Lib.hid hlW
    have c_spec := fun (aaW : Option Addr) (ccW : Nat) (W : World) (hrW : RowAt W aaW (intCells lW)) => spec_IsTrivialWord vG aaW ccW lW W hG0 hG1 hrW hLW.out
    have c_impl := fun (aaW : Option Addr) (ccW : Nat) (W : World) (hrW : RowAt W aaW (intCells lW)) => impl_IsTrivialWord vG aaW ccW lW W hG0 hG1 hrW hLW.out
    generalize hV0 : (decide (Dn.TrivW vG lW)) = S0 at *
    clear hV0
    have Hs := Lib.hid c_spec; have Hi := Lib.hid c_impl; clear c_spec c_impl
    go_enter Try.func8, Try.ntmps8
    have h2 := Lib.hid (show w.heap.size ≤ w.heap.size from Nat.le_refl _)
    go_wp2_with fail
    refine (toIntS aW cW lW w (hAW.out.below hZB0) hLW.out).mono ?_
    rintro e w1 ⟨rfl, h3, h4⟩
    have h5 := Lib.hid (RowIn.of_blk (lo := w.heap.size) (hi := w1.heap.size) h3 (Nat.le_refl _) h3.lt); clear h3
    have h6 := Lib.hid (h4.size)
    have hZB7 : Below w.heap.size w w1 := hZB0.trans (h4.mono hZB0.size)
    clear h4
    go_wp2_with fail
    refine (Hs.out (some ⟨w.heap.size, 0, none⟩) lW.length w1 h5.out.row).mono ?_
    rintro e w2 ⟨rfl, h8⟩
    have h9 := Lib.hid (h8.size)
    have hZB10 : Below w.heap.size w w2 := hZB7.trans (h8.mono hZB7.size)
    have h11 := Lib.hid (h5.out.below h8); clear h5
    clear h8
    clear h11
    go_wp2_with fail
    refine (toIntS aW cW lW w2 (hAW.out.below hZB10) hLW.out).mono ?_
    rintro e w3 ⟨rfl, h12, h13⟩
    have h14 := Lib.hid (RowIn.of_blk (lo := w2.heap.size) (hi := w3.heap.size) h12 (Nat.le_refl _) h12.lt); clear h12
    have h15 := Lib.hid (h13.size)
    have hZB16 : Below w.heap.size w w3 := hZB10.trans (h13.mono hZB10.size)
    clear h13
    go_wp2_with fail
    refine (Hi.out (some ⟨w2.heap.size, 0, none⟩) lW.length w3 h14.out.row).mono ?_
    rintro e w4 ⟨rfl, h17⟩
    have h18 := Lib.hid (h17.size)
    have hZB19 : Below w.heap.size w w4 := hZB16.trans (h17.mono hZB16.size)
    have h20 := Lib.hid (h14.out.below h17); clear h14
    clear h17
    go_wp2_with fail
    refine (toIntS aW cW lW w4 (hAW.out.below hZB19) hLW.out).mono ?_
    rintro e w5 ⟨rfl, h22, h23⟩
    have h24 := Lib.hid (RowIn.of_blk (lo := w4.heap.size) (hi := w5.heap.size) h22 (Nat.le_refl _) h22.lt); clear h22
    have h25 := Lib.hid (h23.size)
    have hZB26 : Below w.heap.size w w5 := hZB19.trans (h23.mono hZB19.size)
    have h27 := Lib.hid (h20.out.below h23); clear h20
    clear h23
    go_wp2_with fail
    refine (eqIntS (some ⟨w2.heap.size, 0, none⟩) (some ⟨w4.heap.size, 0, none⟩) lW.length lW.length lW w5 h27.out.row h24.out.row (Nat.le_trans hLW.out (by decide))).mono ?_
    rintro e w6 ⟨rfl, h28⟩
    have h29 := Lib.hid (h28.size)
    have hZB30 : Below w.heap.size w w6 := hZB26.trans (h28.mono hZB26.size)
    have h31 := Lib.hid (h27.out.below h28); clear h27
    have h32 := Lib.hid (h24.out.below h28); clear h24
    clear h28
    clear h32
    go_wp2
    go_ret
    exact ⟨rfl, hZB30⟩
  · have hbig : 1048576 < lW.length := by omega
    go_enter Try.func8, Try.ntmps8
    go_wp2
    go_ret
    exact ⟨rfl, Below.refl _ _⟩

set_option maxRecDepth 100000 in
theorem contract (H : Type) (enc : TypeId × Value → H) (W : World) (base : Nat) (args : Array Value) (ds gs : List (DataW H)) (before : List MemPlace)
    (hval : ∀ (j : Nat) t v, Try.f8.params[j]? = some t → args[j]? = some v → Value.okWide Try.prog W .any base t v)
    (hW : DataW.Whole enc Try.prog Try.f8.params.toList Rows.fnExactIsTrivialWordSpec.vars false W args.toList ds gs before) :
    Calls Try.prog 8 args W fun e W' => ∃ v, e = .returned v ∧ Rows.fnExactIsTrivialWordSpec.post enc Try.prog Try.f8 false true false false W args v W' := by
  have hW' := hW
  obtain ⟨p, q, hA0, hV, rfl, hfz, hnd⟩ := hW
  have hA : DataW.TrodAll enc Try.prog W 0 (fun _ => true) true Try.f8.params.toList args.toList ds p := hA0
  rw [Try.params8] at hA hval
  obtain ⟨v0, vs0, d0, ds0, p0, q0, hargs, rfl, rfl, h0, r0⟩ := trodAll_cons hA
  obtain ⟨v1, vs1, d1, ds1, p1, q1, rfl, rfl, rfl, h1, r1⟩ := trodAll_cons r0
  obtain ⟨rfl, rfl, rfl⟩ := trodAll_nil r1
  obtain rfl : args = #[v0, v1] := by cases args; simp_all
  obtain ⟨rfl, rfl⟩ := trodVars_none hV
  have k0 := h0
  have k1 := h1
  obtain ⟨G, rfl, rfl, rfl, wG⟩ := open_int Try.underlying3 (hval 0 3 v0 rfl rfl) h0
  have bG := bounds_i64 wG
  obtain ⟨aW, cW, lW, rfl, wW⟩ := Read.ints_of (hval 1 42 v1 rfl rfl) h1
  clear hA0
  simp only [List.append_nil] at hW'
  refine (law G bG.1 bG.2 aW cW lW W wW).mono fun e W' ⟨he, hg⟩ => ?_
  subst he
  exact ⟨_, rfl, post_of_below (pv := []) hW' (fun _ _ _ => trodAll_cons_mk (shut_bool Try.underlying4 _) trodAll_mk0)
    (fun sp hs => trodAll_cons_mk (trod_keeps (t := 3) (by kernel_rfl) (by kernel_rfl) (by kernel_rfl) k0 hg (fun x hx => hW'.lt x (by simp_all)) (fun x hx => hs x (by simp_all))) (trodAll_cons_mk (trod_keeps (t := 42) (by kernel_rfl) (by kernel_rfl) (by kernel_rfl) k1 hg (fun x hx => hW'.lt x (by simp_all)) (fun x hx => hs x (by simp_all))) (trodAll_mk0)))
    (fun _ _ => rfl) (by simp) hg (ok_one (by kernel_rfl) rfl (okWide_bool_mk Try.underlying4 _))⟩

theorem reads (os : Os) {H : Type} (enc : TypeId × Value → H) : ∃ places, DataW.whole enc Try.prog ((World.holding Try.prog os ⟨#[], #[], []⟩).forCall (fun _ _ => 0) ⟨#[], #[.int .i64 0, .slice none 0 0], []⟩).memory Try.f8.params.toList Rows.fnExactIsTrivialWordSpec.vars false (#[.int .i64 0, .slice none 0 0] : Array Value).toList 8 = some ([.lit (.int .i64 0), .nil], [], places) :=
  ⟨[], by kernel_rfl⟩

set_option maxRecDepth 100000 in
theorem lifted (os : Os) (started : os.Started) (H : Type) (enc : TypeId × Value → H) (F : Stop.Interp) :
    ReturnsInHanded {} Try.checked os 8 .any ((OpenSpec.ofChange Rows.fnExactIsTrivialWordSpec).preRow enc Try.prog Try.f8 Rows.fnExactIsTrivialWordRow.domain false Rows.fnExactIsTrivialWordRow.laid) (((OpenSpec.ofChange Rows.fnExactIsTrivialWordSpec).at F).post enc Try.prog Try.f8 false true false false) := by
  obtain ⟨places, hx⟩ := reads os enc
  refine returnsInHanded_of_row (C := Try.checked) (s := OpenSpec.ofChange Rows.fnExactIsTrivialWordSpec) Low.own started (by kernel_rfl) Try.func8
    (witness_row_at (enc := enc) (C := Try.checked) false (World.holding Try.prog os ⟨#[], #[], []⟩) #[.int .i64 0, .slice none 0 0] rfl (by kernel_rfl) (by kernel_rfl) (by kernel_rfl)
      (OpenSpec.preRow_of_cond 8 hx (by kernel_rfl) (fun k hk => by cases hk) (by kernel_rfl) (laidMet_nil _ _))) ?_
  intro W base args ds gs before hval hW _ _ _ hL hShaped _
  exact contract H enc W base args ds gs before hval hW 

theorem said : Rows.FnExactIsTrivialWordSaid :=
  OpenClaim.holds_of_cond 8 Try.f8 rfl rfl rfl rfl rfl rfl rfl ⟨rfl, rfl, rfl, rfl, rfl⟩ rfl rfl rfl rfl rfl (by kernel_rfl) Try.func8 (by kernel_rfl)
    (of_decide_eq_true (by kernel_rfl)) (by unfold Func.isWrapper; first | (rw [if_pos (by decide +kernel)]; kernel_rfl) | (rw [if_neg (by decide +kernel)]; exact ⟨rfl, rfl⟩))
    (fun os started H enc _ F => by rw [OpenClaim.pre_eq_preRow]; exact lifted os started H enc F)
end Go.Proofs.Ytfaagbmaekoogaa.fnExactIsTrivialWord
