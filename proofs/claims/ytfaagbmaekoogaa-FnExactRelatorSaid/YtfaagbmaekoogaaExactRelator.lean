/-
  At every argument the program's Relator returns what the model returns, writes into no argument, and its answer owns its memory.
-/
import Derived.Test.YtfaagbmaekoogaaBase
import Derived.Test.YtfaagbmaekoogaaLow
import Derived.Test.YtfaagbmaekoogaaSlice
import Derived.Test.YtfaagbmaekoogaaIntRow
import Derived.Test.YtfaagbmaekoogaaInts
import Derived.Test.YtfaagbmaekoogaaOwn
import Derived.Test.YtfaagbmaekoogaaGrid
import Derived.Test.YtfaagbmaekoogaaGridWalk
import Derived.Test.YtfaagbmaekoogaaGridWalk2
import Derived.Test.YtfaagbmaekoogaaGridMark
import Derived.Test.YtfaagbmaekoogaaAppend
import Derived.Test.YtfaagbmaekoogaaGridRows
import Derived.Test.YtfaagbmaekoogaaIsWord
import Derived.Test.YtfaagbmaekoogaaWord
import Derived.Test.YtfaagbmaekoogaaGrp
import Derived.Test.YtfaagbmaekoogaaGrpX
import Derived.Test.YtfaagbmaekoogaaReadInts
import Derived.Deep.DeepWitnessRowRef
import Derived.OpenShut
import Derived.Deep.DeepHandedRow
import Derived.LaidMore
namespace Go.Proofs.Ytfaagbmaekoogaa.fnExactRelator
open Go.ChangeShapes Go.WideShapes Go.ChangeAt Go.RowKit Go.Sort
open Go.ChangeMaps (open_string)

set_option maxRecDepth 10000 in
set_option maxHeartbeats 2000000 in
theorem law (vG : Int) (hG0 : -9223372036854775808 ≤ vG) (hG1 : vG ≤ 9223372036854775807) (w : World)  :
    Calls Try.prog 5 #[.int .i64 vG] w fun e w' => e = .returned (.bool true) ∧ Below w.heap.size w w' := by
  have hZB0 := Below.refl w.heap.size w
  have hZN0 := Lib.hid ((Nat.le_trans (Dn.rel_len8 vG) (by decide)) : (Dn.rel vG).length ≤ 1000000)
  have c_spec := fun  (W : World)  => spec_Relator vG W hG0 hG1
  have c_impl := fun  (W : World)  => impl_Relator vG W hG0 hG1
  generalize hV0 : Dn.rel vG = R0 at *
  clear hV0
  have Hs := Lib.hid c_spec; have Hi := Lib.hid c_impl; clear c_spec c_impl
  go_enter Try.func5, Try.ntmps5
  have h1 := Lib.hid (show w.heap.size ≤ w.heap.size from Nat.le_refl _)
  go_wp2_with fail
  refine (Hs.out  w ).mono ?_
  rintro e w1 ⟨ra3, rc4, rfl, _, _, hf5, h2⟩
  have h6 := Lib.hid (hf5.row); clear hf5
  have h7 := Lib.hid (h2.size)
  have hZB8 : Below w.heap.size w w1 := hZB0.trans (h2.mono hZB0.size)
  clear h2
  have h9 := Lib.hid (Below.refl w1.heap.size w1)
  go_wp2_with fail
  refine (Hi.out  w1 ).mono ?_
  rintro e w2 ⟨ra11, rc12, rfl, _, _, hf13, h10⟩
  have h14 := Lib.hid (RowIn.of_fresh hf13); clear hf13
  have h15 := Lib.hid (h10.size)
  have hZB16 : Below w.heap.size w w2 := hZB8.trans (h10.mono hZB8.size)
  have h17 := Lib.hid (h9.out.trans (h10.mono h9.out.size)); clear h9
  clear h10
  go_wp2_with fail
  refine (eqIntS ra11 ra3 rc12 rc4 R0 w2 h14.out.row (h6.out.below h17.out) (Nat.le_trans hZN0.out (by decide))).mono ?_
  rintro e w3 ⟨rfl, h18⟩
  have h19 := Lib.hid (h18.size)
  have hZB20 : Below w.heap.size w w3 := hZB16.trans (h18.mono hZB16.size)
  have h21 := Lib.hid (h17.out.trans (h18.mono h17.out.size)); clear h17
  have h22 := Lib.hid (h14.out.below h18); clear h14
  clear h18
  go_wp2_with fail
  refine (markIntS_only ra11 rc12 1 w1.heap.size w2.heap.size R0 w3 h22.out (by have := h1.out; have := h7.out; have := h15.out; have := h19.out; have := hZN0.out; omega) (by have := h1.out; have := h7.out; have := h15.out; have := h19.out; have := hZN0.out; omega)).mono ?_
  rintro e w4 ⟨rfl, h24, h23⟩
  have hZB25 : Below w.heap.size w w4 := hZB20.trans (h23.below (by have := h1.out; have := h7.out; have := h15.out; have := h19.out; have := hZN0.out; omega) hZB20.size)
  have h26 := Lib.hid (h21.out.trans (h23.below (by have := h1.out; have := h7.out; have := h15.out; have := h19.out; have := hZN0.out; omega) h21.out.size)); clear h21
  have h27 := Lib.hid (h23.size)
  clear h23 h22
  have h28 := Lib.hid (h24); clear h24
  go_wp2_with fail
  refine (heldIntS ra11 R0.length rc12 1 w4 h28.out.row (by have := h1.out; have := h7.out; have := h15.out; have := h19.out; have := h27.out; have := hZN0.out; omega) (by have := h1.out; have := h7.out; have := h15.out; have := h19.out; have := h27.out; have := hZN0.out; omega)).mono ?_
  rintro e w5 ⟨rfl, h29⟩
  have h30 := Lib.hid (h29.size)
  have hZB31 : Below w.heap.size w w5 := hZB25.trans (h29.mono hZB25.size)
  have h32 := Lib.hid (h26.out.trans (h29.mono h26.out.size)); clear h26
  have h33 := Lib.hid (h28.out.below h29); clear h28
  clear h29
  go_wp2_with fail
  refine (Hi.out  w5 ).mono ?_
  rintro e w6 ⟨ra35, rc36, rfl, _, _, hf37, h34⟩
  have h38 := Lib.hid (RowIn.of_fresh hf37); clear hf37
  have h39 := Lib.hid (h34.size)
  have hZB40 : Below w.heap.size w w6 := hZB31.trans (h34.mono hZB31.size)
  have h41 := Lib.hid (h32.out.trans (h34.mono h32.out.size)); clear h32
  have h42 := Lib.hid (h33.out.below h34); clear h33
  clear h34
  go_wp2_with fail
  refine (eqIntS ra35 ra3 rc36 rc4 R0 w6 h38.out.row (h6.out.below h41.out) (Nat.le_trans hZN0.out (by decide))).mono ?_
  rintro e w7 ⟨rfl, h43⟩
  have h44 := Lib.hid (h43.size)
  have hZB45 : Below w.heap.size w w7 := hZB40.trans (h43.mono hZB40.size)
  have h46 := Lib.hid (h41.out.trans (h43.mono h41.out.size)); clear h41
  have h47 := Lib.hid (h42.out.below h43); clear h42
  have h48 := Lib.hid (h38.out.below h43); clear h38
  clear h43
  go_wp2_with fail
  refine (heldIntS ra11 R0.length rc12 1 w7 h47.out.row (by have := h1.out; have := h7.out; have := h15.out; have := h19.out; have := h27.out; have := h30.out; have := h39.out; have := h44.out; have := hZN0.out; omega) (by have := h1.out; have := h7.out; have := h15.out; have := h19.out; have := h27.out; have := h30.out; have := h39.out; have := h44.out; have := hZN0.out; omega)).mono ?_
  rintro e w8 ⟨rfl, h49⟩
  have h50 := Lib.hid (h49.size)
  have hZB51 : Below w.heap.size w w8 := hZB45.trans (h49.mono hZB45.size)
  have h52 := Lib.hid (h46.out.trans (h49.mono h46.out.size)); clear h46
  have h53 := Lib.hid (h47.out.below h49); clear h47
  have h54 := Lib.hid (h48.out.below h49); clear h48
  clear h49
  go_wp2
  go_ret
  exact ⟨rfl, hZB51⟩

set_option maxRecDepth 100000 in
theorem contract (H : Type) (enc : TypeId × Value → H) (W : World) (base : Nat) (args : Array Value) (ds gs : List (DataW H)) (before : List MemPlace)
    (hval : ∀ (j : Nat) t v, Try.f5.params[j]? = some t → args[j]? = some v → Value.okWide Try.prog W .any base t v)
    (hW : DataW.Whole enc Try.prog Try.f5.params.toList Rows.fnExactRelatorSpec.vars false W args.toList ds gs before) :
    Calls Try.prog 5 args W fun e W' => ∃ v, e = .returned v ∧ Rows.fnExactRelatorSpec.post enc Try.prog Try.f5 false true false false W args v W' := by
  have hW' := hW
  obtain ⟨p, q, hA0, hV, rfl, hfz, hnd⟩ := hW
  have hA : DataW.TrodAll enc Try.prog W 0 (fun _ => true) true Try.f5.params.toList args.toList ds p := hA0
  rw [Try.params5] at hA hval
  obtain ⟨v0, vs0, d0, ds0, p0, q0, hargs, rfl, rfl, h0, r0⟩ := trodAll_cons hA
  obtain ⟨rfl, rfl, rfl⟩ := trodAll_nil r0
  obtain rfl : args = #[v0] := by cases args; simp_all
  obtain ⟨rfl, rfl⟩ := trodVars_none hV
  have k0 := h0
  obtain ⟨G, rfl, rfl, rfl, wG⟩ := open_int Try.underlying3 (hval 0 3 v0 rfl rfl) h0
  have bG := bounds_i64 wG
  clear hA0
  simp only [List.append_nil] at hW'
  refine (law G bG.1 bG.2 W).mono fun e W' ⟨he, hg⟩ => ?_
  subst he
  exact ⟨_, rfl, post_of_below (pv := []) hW' (fun _ _ _ => trodAll_cons_mk (shut_bool Try.underlying4 _) trodAll_mk0)
    (fun sp hs => trodAll_cons_mk (trod_keeps (t := 3) (by kernel_rfl) (by kernel_rfl) (by kernel_rfl) k0 hg (fun x hx => hW'.lt x (by simp_all)) (fun x hx => hs x (by simp_all))) (trodAll_mk0))
    (fun _ _ => rfl) (by simp) hg (ok_one (by kernel_rfl) rfl (okWide_bool_mk Try.underlying4 _))⟩

theorem reads (os : Os) {H : Type} (enc : TypeId × Value → H) : ∃ places, DataW.whole enc Try.prog ((World.holding Try.prog os ⟨#[], #[], []⟩).forCall (fun _ _ => 0) ⟨#[], #[.int .i64 0], []⟩).memory Try.f5.params.toList Rows.fnExactRelatorSpec.vars false (#[.int .i64 0] : Array Value).toList 8 = some ([.lit (.int .i64 0)], [], places) :=
  ⟨[], by kernel_rfl⟩

set_option maxRecDepth 100000 in
theorem lifted (os : Os) (started : os.Started) (H : Type) (enc : TypeId × Value → H) (F : Stop.Interp) :
    ReturnsInHanded {} Try.checked os 5 .any ((OpenSpec.ofChange Rows.fnExactRelatorSpec).preRow enc Try.prog Try.f5 Rows.fnExactRelatorRow.domain false Rows.fnExactRelatorRow.laid) (((OpenSpec.ofChange Rows.fnExactRelatorSpec).at F).post enc Try.prog Try.f5 false true false false) := by
  obtain ⟨places, hx⟩ := reads os enc
  refine returnsInHanded_of_row (C := Try.checked) (s := OpenSpec.ofChange Rows.fnExactRelatorSpec) Low.own started (by kernel_rfl) Try.func5
    (witness_row_at (enc := enc) (C := Try.checked) false (World.holding Try.prog os ⟨#[], #[], []⟩) #[.int .i64 0] rfl (by kernel_rfl) (by kernel_rfl) (by kernel_rfl)
      (OpenSpec.preRow_of_cond 8 hx (by kernel_rfl) (fun k hk => by cases hk) (by kernel_rfl) (laidMet_nil _ _))) ?_
  intro W base args ds gs before hval hW _ _ _ hL hShaped _
  exact contract H enc W base args ds gs before hval hW 

theorem said : Rows.FnExactRelatorSaid :=
  OpenClaim.holds_of_cond 5 Try.f5 rfl rfl rfl rfl rfl rfl rfl ⟨rfl, rfl, rfl, rfl, rfl⟩ rfl rfl rfl rfl rfl (by kernel_rfl) Try.func5 (by kernel_rfl)
    (of_decide_eq_true (by kernel_rfl)) (by unfold Func.isWrapper; first | (rw [if_pos (by decide +kernel)]; kernel_rfl) | (rw [if_neg (by decide +kernel)]; exact ⟨rfl, rfl⟩))
    (fun os started H enc _ F => by rw [OpenClaim.pre_eq_preRow]; exact lifted os started H enc F)
end Go.Proofs.Ytfaagbmaekoogaa.fnExactRelator
