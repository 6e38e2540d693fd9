/-
  At every argument the program's StandardGluing returns what the model returns, writes into no argument, and its answer owns its memory.
-/
import Derived.Test.YtmopgapeibdpoaaBase
import Derived.Test.YtmopgapeibdpoaaLow
import Derived.Test.YtmopgapeibdpoaaSlice
import Derived.Test.YtmopgapeibdpoaaIntRow
import Derived.Test.YtmopgapeibdpoaaInts
import Derived.Test.YtmopgapeibdpoaaOwn
import Derived.Test.YtmopgapeibdpoaaGrid
import Derived.Test.YtmopgapeibdpoaaGridWalk
import Derived.Test.YtmopgapeibdpoaaGridWalk2
import Derived.Test.YtmopgapeibdpoaaGridMark
import Derived.Test.YtmopgapeibdpoaaGridRows
import Derived.Test.YtmopgapeibdpoaaGlue
import Derived.Test.YtmopgapeibdpoaaIsGluing
import Derived.Test.YtmopgapeibdpoaaSurf
import Derived.Test.YtmopgapeibdpoaaSurfI
import Derived.Test.YtmopgapeibdpoaaSurfSum
import Derived.Test.YtmopgapeibdpoaaStd
import Derived.Test.YtmopgapeibdpoaaStd2
import Derived.Test.YtmopgapeibdpoaaStd3
import Derived.Test.YtmopgapeibdpoaaReadSurf
import Derived.Deep.DeepWitnessRowRef
import Derived.OpenShut
import Derived.Deep.DeepHandedRow
import Derived.LaidMore
namespace Go.Proofs.Ytmopgapeibdpoaa.fnExactStandardGluing
open Go.ChangeShapes Go.WideShapes Go.ChangeAt Go.RowKit Go.Sort
open Go.ChangeMaps (open_string)

set_option maxRecDepth 10000 in
set_option maxHeartbeats 2000000 in
theorem law (xS yS zS : Int) (w : World) (hhS : I64s [xS, yS, zS]) :
    Calls Try.prog 11 #[.agg #[.int .i64 xS, .int .i64 yS, .int .i64 zS]] w fun e w' => e = .returned (.bool true) ∧ Below w.heap.size w w' := by
  have hB0 := Below.refl w.heap.size w
  have hN0 := Lib.hid ((Surf.std_tot xS yS zS) : tot (Surf.std xS yS zS) ≤ 1000000)
  have c_spec := fun  (W : World)  => spec_StandardGluing xS yS zS W hhS
  have c_impl := fun  (W : World)  => impl_StandardGluing xS yS zS W hhS
  generalize hV0 : Surf.std xS yS zS = R0 at *
  clear hV0
  generalize hV1 : (decide (Surf.stdOk xS yS zS)) = S1 at *
  clear hV1
  have hQ0 := Lib.hid (show sumLen R0 ≤ 1000000 by have := hN0.out; unfold tot at this; omega)
  have Hs := Lib.hid c_spec; have Hi := Lib.hid c_impl; clear c_spec c_impl
  go_enter Try.func11, Try.ntmps11
  have h1 : Below w.heap.size w (w.alloc (.cells #[.int .i64 xS, .int .i64 yS, .int .i64 zS] 23)) := (Below.refl _ _).alloc (Nat.le_refl _) _
  have h2 := Lib.hid (h1.size)
  have hB3 : Below w.heap.size w (w.alloc (.cells #[.int .i64 xS, .int .i64 yS, .int .i64 zS] 23)) := hB0.trans (h1.mono hB0.size)
  clear h1
  have h4 := Lib.hid (show (w.alloc (.cells #[.int .i64 xS, .int .i64 yS, .int .i64 zS] 23)).heap.size = w.heap.size + 1 from by simp)
  have h5 := Lib.hid (show Blk (w.alloc (.cells #[.int .i64 xS, .int .i64 yS, .int .i64 zS] 23)) w.heap.size 23 #[.int .i64 xS, .int .i64 yS, .int .i64 zS] from Blk.new w _ _)
  obtain ⟨_, _, _, _, _, _⟩ := h5.out.six
  go_wp2_with fail
  refine (toSurface xS yS zS _).mono ?_
  rintro e w1 ⟨rfl, h6⟩
  have h7 := Lib.hid (h6.size)
  have hB8 : Below w.heap.size w w1 := hB3.trans (h6.mono hB3.size)
  have h9 := Lib.hid (h5.out.below h6 h5.out.lt); clear h5
  obtain ⟨_, _, _, _, _, _⟩ := h9.out.six
  clear h6
  go_wp2_with fail
  refine (Hs.out  w1 ).mono ?_
  rintro e w2 ⟨ra11, rc12, rfl, _, _, hf13, h10⟩
  have h14 := Lib.hid (hf13.grid); clear hf13
  have h15 := Lib.hid (h10.size)
  have hB16 : Below w.heap.size w w2 := hB8.trans (h10.mono hB8.size)
  have h17 := Lib.hid (h9.out.below h10 h9.out.lt); clear h9
  obtain ⟨_, _, _, _, _, _⟩ := h17.out.six
  clear h10
  have h18 := Lib.hid (Below.refl w2.heap.size w2)
  go_wp2_with fail
  refine (toSurface xS yS zS _).mono ?_
  rintro e w3 ⟨rfl, h19⟩
  have h20 := Lib.hid (h19.size)
  have hB21 : Below w.heap.size w w3 := hB16.trans (h19.mono hB16.size)
  have h22 := Lib.hid (h18.out.trans (h19.mono h18.out.size)); clear h18
  have h23 := Lib.hid (h17.out.below h19 h17.out.lt); clear h17
  obtain ⟨_, _, _, _, _, _⟩ := h23.out.six
  clear h19
  go_wp2_with fail
  refine (Hi.out  w3 ).mono ?_
  rintro e w4 ⟨ra25, rc26, rfl, _, _, hf27, h24⟩
  have h28 := Lib.hid (hf27); clear hf27
  have h29 := Lib.hid (h24.size)
  have hB30 : Below w.heap.size w w4 := hB21.trans (h24.mono hB21.size)
  have h31 := Lib.hid (h22.out.trans (h24.mono h22.out.size)); clear h22
  have h32 := Lib.hid (h23.out.below h24 h23.out.lt); clear h23
  obtain ⟨_, _, _, _, _, _⟩ := h32.out.six
  clear h24
  go_wp2_with fail
  refine (eqIntSS ra25 ra11 rc26 rc12 R0 w4 h28.out.grid (h14.out.below h31.out) (Nat.le_trans hN0.out (by decide))).mono ?_
  rintro e w5 ⟨rfl, h33⟩
  have h34 := Lib.hid (h33.size)
  have hB35 : Below w.heap.size w w5 := hB30.trans (h33.mono hB30.size)
  have h36 := Lib.hid (h31.out.trans (h33.mono h31.out.size)); clear h31
  have h37 := Lib.hid (h28.out.below h33); clear h28
  have h38 := Lib.hid (h32.out.below h33 h32.out.lt); clear h32
  obtain ⟨_, _, _, _, _, _⟩ := h38.out.six
  clear h33
  go_wp2_with fail
  refine (markIntSS ra25 rc26 1 w3.heap.size w4.heap.size R0 w5 h37.out (by have := h2.out; have := h4.out; have := h7.out; have := h15.out; have := h20.out; have := h29.out; have := h34.out; have := hQ0.out; omega) (Nat.le_trans hN0.out (by decide))).mono ?_
  rintro e w6 ⟨rfl, h40, h39⟩
  have hB41 : Below w.heap.size w w6 := hB35.trans (h39.below (by have := h2.out; have := h4.out; have := h7.out; have := h15.out; have := h20.out; have := h29.out; have := h34.out; have := hQ0.out; omega) hB35.size)
  have h42 := Lib.hid (h36.out.trans (h39.below (by have := h2.out; have := h4.out; have := h7.out; have := h15.out; have := h20.out; have := h29.out; have := h34.out; have := hQ0.out; omega) h36.out.size)); clear h36
  have h43 := Lib.hid (h39.block h38.out (by have := h2.out; have := h4.out; have := h7.out; have := h15.out; have := h20.out; have := h29.out; have := h34.out; have := hQ0.out; omega)); clear h38
  have h44 := Lib.hid (h39.size)
  obtain ⟨_, _, _, _, _, _⟩ := h43.out.six
  clear h39 h37
  have h45 := Lib.hid (h40); clear h40
  go_wp2_with fail
  refine (heldIntSS ra25 rc26 1 R0 w6 h45.out.grid (by have := h2.out; have := h4.out; have := h7.out; have := h15.out; have := h20.out; have := h29.out; have := h34.out; have := h44.out; have := hQ0.out; omega) (Nat.le_trans hN0.out (by decide))).mono ?_
  rintro e w7 ⟨rfl, h46⟩
  have h47 := Lib.hid (h46.size)
  have hB48 : Below w.heap.size w w7 := hB41.trans (h46.mono hB41.size)
  have h49 := Lib.hid (h42.out.trans (h46.mono h42.out.size)); clear h42
  have h50 := Lib.hid (h45.out.below h46); clear h45
  have h51 := Lib.hid (h43.out.below h46 h43.out.lt); clear h43
  obtain ⟨_, _, _, _, _, _⟩ := h51.out.six
  clear h46
  go_wp2_with fail
  refine (toSurface xS yS zS _).mono ?_
  rintro e w8 ⟨rfl, h52⟩
  have h53 := Lib.hid (h52.size)
  have hB54 : Below w.heap.size w w8 := hB48.trans (h52.mono hB48.size)
  have h55 := Lib.hid (h49.out.trans (h52.mono h49.out.size)); clear h49
  have h56 := Lib.hid (h50.out.below h52); clear h50
  have h57 := Lib.hid (h51.out.below h52 h51.out.lt); clear h51
  obtain ⟨_, _, _, _, _, _⟩ := h57.out.six
  clear h52
  go_wp2_with fail
  refine (Hi.out  w8 ).mono ?_
  rintro e w9 ⟨ra59, rc60, rfl, _, _, hf61, h58⟩
  have h62 := Lib.hid (hf61); clear hf61
  have h63 := Lib.hid (h58.size)
  have hB64 : Below w.heap.size w w9 := hB54.trans (h58.mono hB54.size)
  have h65 := Lib.hid (h55.out.trans (h58.mono h55.out.size)); clear h55
  have h66 := Lib.hid (h56.out.below h58); clear h56
  have h67 := Lib.hid (h57.out.below h58 h57.out.lt); clear h57
  obtain ⟨_, _, _, _, _, _⟩ := h67.out.six
  clear h58
  go_wp2_with fail
  refine (eqIntSS ra59 ra11 rc60 rc12 R0 w9 h62.out.grid (h14.out.below h65.out) (Nat.le_trans hN0.out (by decide))).mono ?_
  rintro e w10 ⟨rfl, h68⟩
  have h69 := Lib.hid (h68.size)
  have hB70 : Below w.heap.size w w10 := hB64.trans (h68.mono hB64.size)
  have h71 := Lib.hid (h65.out.trans (h68.mono h65.out.size)); clear h65
  have h72 := Lib.hid (h66.out.below h68); clear h66
  have h73 := Lib.hid (h62.out.below h68); clear h62
  have h74 := Lib.hid (h67.out.below h68 h67.out.lt); clear h67
  obtain ⟨_, _, _, _, _, _⟩ := h74.out.six
  clear h68
  go_wp2_with fail
  refine (heldIntSS ra25 rc26 1 R0 w10 h72.out.grid (by have := h2.out; have := h4.out; have := h7.out; have := h15.out; have := h20.out; have := h29.out; have := h34.out; have := h44.out; have := h47.out; have := h53.out; have := h63.out; have := h69.out; have := hQ0.out; omega) (Nat.le_trans hN0.out (by decide))).mono ?_
  rintro e w11 ⟨rfl, h75⟩
  have h76 := Lib.hid (h75.size)
  have hB77 : Below w.heap.size w w11 := hB70.trans (h75.mono hB70.size)
  have h78 := Lib.hid (h71.out.trans (h75.mono h71.out.size)); clear h71
  have h79 := Lib.hid (h72.out.below h75); clear h72
  have h80 := Lib.hid (h73.out.below h75); clear h73
  have h81 := Lib.hid (h74.out.below h75 h74.out.lt); clear h74
  obtain ⟨_, _, _, _, _, _⟩ := h81.out.six
  clear h75
  go_wp2
  go_ret
  exact ⟨rfl, hB77⟩

set_option maxRecDepth 100000 in
theorem contract (H : Type) (enc : TypeId × Value → H) (W : World) (base : Nat) (args : Array Value) (ds gs : List (DataW H)) (before : List MemPlace)
    (hval : ∀ (j : Nat) t v, Try.f11.params[j]? = some t → args[j]? = some v → Value.okWide Try.prog W .any base t v)
    (hW : DataW.Whole enc Try.prog Try.f11.params.toList Rows.fnExactStandardGluingSpec.vars false W args.toList ds gs before) :
    Calls Try.prog 11 args W fun e W' => ∃ v, e = .returned v ∧ Rows.fnExactStandardGluingSpec.post enc Try.prog Try.f11 false true false false W args v W' := by
  have hW' := hW
  obtain ⟨p, q, hA0, hV, rfl, hfz, hnd⟩ := hW
  have hA : DataW.TrodAll enc Try.prog W 0 (fun _ => true) true Try.f11.params.toList args.toList ds p := hA0
  rw [Try.params11] at hA hval
  obtain ⟨v0, vs0, d0, ds0, p0, q0, hargs, rfl, rfl, h0, r0⟩ := trodAll_cons hA
  obtain ⟨rfl, rfl, rfl⟩ := trodAll_nil r0
  obtain rfl : args = #[v0] := by cases args; simp_all
  obtain ⟨rfl, rfl⟩ := trodVars_none hV
  have k0 := h0
  obtain ⟨xS, yS, zS, rfl, wS⟩ := Read.surface_of (hval 0 23 v0 rfl rfl) h0
  clear hA0
  simp only [List.append_nil] at hW'
  refine (law xS yS zS W wS).mono fun e W' ⟨he, hg⟩ => ?_
  subst he
  exact ⟨_, rfl, post_of_below (pv := []) hW' (fun _ _ _ => trodAll_cons_mk (shut_bool Try.underlying4 _) trodAll_mk0)
    (fun sp hs => trodAll_cons_mk (trod_keeps (t := 23) (by kernel_rfl) (by kernel_rfl) (by kernel_rfl) k0 hg (fun x hx => hW'.lt x (by simp_all)) (fun x hx => hs x (by simp_all))) (trodAll_mk0))
    (fun _ _ => rfl) (by simp) hg (ok_one (by kernel_rfl) rfl (okWide_bool_mk Try.underlying4 _))⟩

theorem reads (os : Os) {H : Type} (enc : TypeId × Value → H) : ∃ places, DataW.whole enc Try.prog ((World.holding Try.prog os ⟨#[], #[], []⟩).forCall (fun _ _ => 0) ⟨#[], #[.agg #[.int .i64 0, .int .i64 0, .int .i64 0]], []⟩).memory Try.f11.params.toList Rows.fnExactStandardGluingSpec.vars false (#[.agg #[.int .i64 0, .int .i64 0, .int .i64 0]] : Array Value).toList 8 = some ([.agg [.lit (.int .i64 0), .lit (.int .i64 0), .lit (.int .i64 0)]], [], places) :=
  ⟨[], by kernel_rfl⟩

set_option maxRecDepth 100000 in
theorem lifted (os : Os) (started : os.Started) (H : Type) (enc : TypeId × Value → H) (F : Stop.Interp) :
    ReturnsInHanded {} Try.checked os 11 .any ((OpenSpec.ofChange Rows.fnExactStandardGluingSpec).preRow enc Try.prog Try.f11 Rows.fnExactStandardGluingRow.domain false Rows.fnExactStandardGluingRow.laid) (((OpenSpec.ofChange Rows.fnExactStandardGluingSpec).at F).post enc Try.prog Try.f11 false true false false) := by
  obtain ⟨places, hx⟩ := reads os enc
  refine returnsInHanded_of_row (C := Try.checked) (s := OpenSpec.ofChange Rows.fnExactStandardGluingSpec) Low.own started (by kernel_rfl) Try.func11
    (witness_row_at (enc := enc) (C := Try.checked) false (World.holding Try.prog os ⟨#[], #[], []⟩) #[.agg #[.int .i64 0, .int .i64 0, .int .i64 0]] rfl (by kernel_rfl) (by kernel_rfl) (by kernel_rfl)
      (OpenSpec.preRow_of_cond 8 hx (by kernel_rfl) (fun k hk => by cases hk) (by kernel_rfl) (laidMet_nil _ _))) ?_
  intro W base args ds gs before hval hW _ _ _ hL hShaped _
  exact contract H enc W base args ds gs before hval hW 

theorem said : Rows.FnExactStandardGluingSaid :=
  OpenClaim.holds_of_cond 11 Try.f11 rfl rfl rfl rfl rfl rfl rfl ⟨rfl, rfl, rfl, rfl, rfl⟩ rfl rfl rfl rfl rfl (by kernel_rfl) Try.func11 (by kernel_rfl)
    (of_decide_eq_true (by kernel_rfl)) (by unfold Func.isWrapper; first | (rw [if_pos (by decide +kernel)]; kernel_rfl) | (rw [if_neg (by decide +kernel)]; exact ⟨rfl, rfl⟩))
    (fun os started H enc _ F => by rw [OpenClaim.pre_eq_preRow]; exact lifted os started H enc F)
end Go.Proofs.Ytmopgapeibdpoaa.fnExactStandardGluing
