/-
  At every argument the program's WithHandle returns what the model returns, writes into no argument, and its answer owns its memory.
-/
import Derived.Test.YtmopgapeibdpoaaBase
import Derived.Test.YtmopgapeibdpoaaLow
import Derived.Test.YtmopgapeibdpoaaSlice
import Derived.Test.YtmopgapeibdpoaaIntRow
import Derived.Test.YtmopgapeibdpoaaInts
import Derived.Test.YtmopgapeibdpoaaOwn
import Derived.Test.YtmopgapeibdpoaaSurf
import Derived.Test.YtmopgapeibdpoaaSurfI
import Derived.Test.YtmopgapeibdpoaaSurfSum
import Derived.Test.YtmopgapeibdpoaaSurfWith
import Derived.Test.YtmopgapeibdpoaaReadSurf
import Derived.Deep.DeepWitnessRowRef
import Derived.OpenShut
import Derived.Deep.DeepHandedRow
import Derived.LaidMore
namespace Go.Proofs.Ytmopgapeibdpoaa.fnExactWithHandle
open Go.ChangeShapes Go.WideShapes Go.ChangeAt Go.RowKit Go.Sort
open Go.ChangeMaps (open_string)

set_option maxRecDepth 10000 in
set_option maxHeartbeats 4000000 in
theorem law (x y z : Int) (w : World) (hb : I64s [x, y, z]) :
    Calls Try.prog 8 #[.agg #[.int .i64 x, .int .i64 y, .int .i64 z]] w fun e w' => e = .returned (.bool true) ∧ Below w.heap.size w w' := by
  have hs := fun W => spec_WithHandle x y z W hb
  have hi := fun W => impl_WithHandle x y z W hb
  generalize Surf.sum x y z 1 0 0 = s at *
  generalize decide (Surf.sumOk x y z 1 0 0) = b at *
  have Hs := Lib.hid hs; have Hi := Lib.hid hi; clear hs hi hb
  generalize hN : w.heap.size = N at *
  have HN := Lib.hid hN; have hN0 := Lib.hid (Nat.le_of_eq hN.symm)
  go_enter Try.func8, Try.ntmps8
  go_wp2_with fail
  refine (toSurface x y z _).mono ?_
  rintro e w1 ⟨rfl, hb1⟩
  obtain ⟨hA, hl⟩ := Blk.of1 HN.out hb1 (by have := HN.out; simp; omega)
  have HB1_0 := Lib.hid hA
  obtain ⟨_, _, _, _, _, _⟩ := hA.six
  clear hA
  have Hl := Lib.hid hl
  clear hl hb1
  go_wp2_with fail
  refine (Hs.out _).mono ?_
  rintro e w2 ⟨rfl, hb2⟩
  have hx0 := HB1_0.out.below hb2 HB1_0.out.lt
  have hl := Hl.out.trans (hb2.mono (by have := hN0.out; have := Hl.out.size; omega))
  clear Hl HB1_0
  have HB2_0 := Lib.hid hx0
  obtain ⟨_, _, _, _, _, _⟩ := hx0.six
  clear hx0
  have Hl := Lib.hid hl
  clear hl hb2
  generalize hKK : w2.heap.size = K at *
  have HKK := Lib.hid hKK
  have neK0 : N ≠ K := by have := HB2_0.out.lt; have := HKK.out; omega
  obtain ⟨_, _, _, _, _, _⟩ := (HB2_0.out.alloc (.cells #[.int .i64 s.1, .int .i64 s.2.1, .int .i64 s.2.2] 25)).six
  go_wp2_with fail
  refine (toSurface x y z _).mono ?_
  rintro e w3 ⟨rfl, hb3⟩
  have hx0 := (HB2_0.out.alloc _).below hb3 (by have := HB2_0.out.lt; simp; omega)
  have hl := below_lay Hl.out (by have := hN0.out; have := Hl.out.size; omega) hb3
  have hx1 := (Blk.new' HKK.out 25 #[.int .i64 s.1, .int .i64 s.2.1, .int .i64 s.2.2]).below hb3 (by have := HKK.out; simp; omega)
  clear Hl HB2_0
  have HB3_0 := Lib.hid hx0
  obtain ⟨_, _, _, _, _, _⟩ := hx0.six
  clear hx0
  have HB3_1 := Lib.hid hx1
  obtain ⟨_, _, _, _, _, _⟩ := hx1.six
  clear hx1
  have Hl := Lib.hid hl
  clear hl hb3
  go_wp2_with fail
  refine (Hi.out _).mono ?_
  rintro e w4 ⟨rfl, hb4⟩
  have hx0 := HB3_0.out.below hb4 HB3_0.out.lt
  have hx1 := HB3_1.out.below hb4 HB3_1.out.lt
  have hl := Hl.out.trans (hb4.mono (by have := hN0.out; have := Hl.out.size; omega))
  clear Hl HB3_0 HB3_1
  have HB4_0 := Lib.hid hx0
  obtain ⟨_, _, _, _, _, _⟩ := hx0.six
  clear hx0
  have HB4_1 := Lib.hid hx1
  obtain ⟨_, _, _, _, _, _⟩ := hx1.six
  clear hx1
  have Hl := Lib.hid hl
  clear hl hb4
  generalize hKJ : w4.heap.size = J at *
  have HKJ := Lib.hid hKJ
  have neJ0 : N ≠ J := by have := HB4_0.out.lt; have := HKJ.out; omega
  have neJ1 : K ≠ J := by have := HB4_1.out.lt; have := HKJ.out; omega
  obtain ⟨_, _, _, _, _, _⟩ := (HB4_0.out.alloc (.cells #[.int .i64 s.1, .int .i64 s.2.1, .int .i64 s.2.2] 25)).six
  obtain ⟨_, _, _, _, _, _⟩ := (HB4_1.out.alloc (.cells #[.int .i64 s.1, .int .i64 s.2.1, .int .i64 s.2.2] 25)).six
  go_wp2_with fail
  refine (eqSurface s.1 s.2.1 s.2.2 _).mono ?_
  rintro e w5 ⟨rfl, hb5⟩
  have hx0 := (HB4_0.out.alloc _).below hb5 (by have := HB4_0.out.lt; simp; omega)
  have hx1 := (HB4_1.out.alloc _).below hb5 (by have := HB4_1.out.lt; simp; omega)
  have hl := below_lay Hl.out (by have := hN0.out; have := Hl.out.size; omega) hb5
  have hx2 := (Blk.new' HKJ.out 25 #[.int .i64 s.1, .int .i64 s.2.1, .int .i64 s.2.2]).below hb5 (by have := HKJ.out; simp; omega)
  clear Hl HB4_0 HB4_1
  have HB5_0 := Lib.hid hx0
  obtain ⟨_, _, _, _, _, _⟩ := hx0.six
  clear hx0
  have HB5_1 := Lib.hid hx1
  obtain ⟨_, _, _, _, _, _⟩ := hx1.six
  clear hx1
  have HB5_2 := Lib.hid hx2
  obtain ⟨_, _, _, _, _, _⟩ := hx2.six
  clear hx2
  have Hl := Lib.hid hl
  clear hl hb5
  go_wp2
  go_ret
  exact ⟨rfl, Hl.out⟩

set_option maxRecDepth 100000 in
theorem contract (H : Type) (enc : TypeId × Value → H) (W : World) (base : Nat) (args : Array Value) (ds gs : List (DataW H)) (before : List MemPlace)
    (hval : ∀ (j : Nat) t v, Try.f8.params[j]? = some t → args[j]? = some v → Value.okWide Try.prog W .any base t v)
    (hW : DataW.Whole enc Try.prog Try.f8.params.toList Rows.fnExactWithHandleSpec.vars false W args.toList ds gs before) :
    Calls Try.prog 8 args W fun e W' => ∃ v, e = .returned v ∧ Rows.fnExactWithHandleSpec.post enc Try.prog Try.f8 false true false false W args v W' := by
  have hW' := hW
  obtain ⟨p, q, hA0, hV, rfl, hfz, hnd⟩ := hW
  have hA : DataW.TrodAll enc Try.prog W 0 (fun _ => true) true Try.f8.params.toList args.toList ds p := hA0
  rw [Try.params8] at hA hval
  obtain ⟨v0, vs0, d0, ds0, p0, q0, hargs, rfl, rfl, h0, r0⟩ := trodAll_cons hA
  obtain ⟨rfl, rfl, rfl⟩ := trodAll_nil r0
  obtain rfl : args = #[v0] := by cases args; simp_all
  obtain ⟨rfl, rfl⟩ := trodVars_none hV
  have k0 := h0
  obtain ⟨xS, yS, zS, rfl, wS⟩ := Read.surface_of (hval 0 23 v0 rfl rfl) h0
  clear hA0
  simp only [List.append_nil] at hW'
  refine (law xS yS zS W wS).mono fun e W' ⟨he, hg⟩ => ?_
  subst he
  exact ⟨_, rfl, post_of_below (pv := []) hW' (fun _ _ _ => trodAll_cons_mk (shut_bool Try.underlying4 _) trodAll_mk0)
    (fun sp hs => trodAll_cons_mk (trod_keeps (t := 23) (by kernel_rfl) (by kernel_rfl) (by kernel_rfl) k0 hg (fun x hx => hW'.lt x (by simp_all)) (fun x hx => hs x (by simp_all))) (trodAll_mk0))
    (fun _ _ => rfl) (by simp) hg (ok_one (by kernel_rfl) rfl (okWide_bool_mk Try.underlying4 _))⟩

theorem reads (os : Os) {H : Type} (enc : TypeId × Value → H) : ∃ places, DataW.whole enc Try.prog ((World.holding Try.prog os ⟨#[], #[], []⟩).forCall (fun _ _ => 0) ⟨#[], #[.agg #[.int .i64 0, .int .i64 0, .int .i64 0]], []⟩).memory Try.f8.params.toList Rows.fnExactWithHandleSpec.vars false (#[.agg #[.int .i64 0, .int .i64 0, .int .i64 0]] : Array Value).toList 8 = some ([.agg [.lit (.int .i64 0), .lit (.int .i64 0), .lit (.int .i64 0)]], [], places) :=
  ⟨[], by kernel_rfl⟩

set_option maxRecDepth 100000 in
theorem lifted (os : Os) (started : os.Started) (H : Type) (enc : TypeId × Value → H) (F : Stop.Interp) :
    ReturnsInHanded {} Try.checked os 8 .any ((OpenSpec.ofChange Rows.fnExactWithHandleSpec).preRow enc Try.prog Try.f8 Rows.fnExactWithHandleRow.domain false Rows.fnExactWithHandleRow.laid) (((OpenSpec.ofChange Rows.fnExactWithHandleSpec).at F).post enc Try.prog Try.f8 false true false false) := by
  obtain ⟨places, hx⟩ := reads os enc
  refine returnsInHanded_of_row (C := Try.checked) (s := OpenSpec.ofChange Rows.fnExactWithHandleSpec) Low.own started (by kernel_rfl) Try.func8
    (witness_row_at (enc := enc) (C := Try.checked) false (World.holding Try.prog os ⟨#[], #[], []⟩) #[.agg #[.int .i64 0, .int .i64 0, .int .i64 0]] rfl (by kernel_rfl) (by kernel_rfl) (by kernel_rfl)
      (OpenSpec.preRow_of_cond 8 hx (by kernel_rfl) (fun k hk => by cases hk) (by kernel_rfl) (laidMet_nil _ _))) ?_
  intro W base args ds gs before hval hW _ _ _ hL hShaped _
  exact contract H enc W base args ds gs before hval hW 

theorem said : Rows.FnExactWithHandleSaid :=
  OpenClaim.holds_of_cond 8 Try.f8 rfl rfl rfl rfl rfl rfl rfl ⟨rfl, rfl, rfl, rfl, rfl⟩ rfl rfl rfl rfl rfl (by kernel_rfl) Try.func8 (by kernel_rfl)
    (of_decide_eq_true (by kernel_rfl)) (by unfold Func.isWrapper; first | (rw [if_pos (by decide +kernel)]; kernel_rfl) | (rw [if_neg (by decide +kernel)]; exact ⟨rfl, rfl⟩))
    (fun os started H enc _ F => by rw [OpenClaim.pre_eq_preRow]; exact lifted os started H enc F)
end Go.Proofs.Ytmopgapeibdpoaa.fnExactWithHandle
