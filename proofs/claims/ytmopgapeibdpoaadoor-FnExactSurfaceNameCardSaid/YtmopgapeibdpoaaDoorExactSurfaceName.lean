/-
  At every argument the program's SurfaceName returns what the model returns, writes into no argument, and its answer owns its memory.
-/
import Derived.Test.YtmopgapeibdpoaaDoorCards
import Derived.Test.YtmopgapeibdpoaaDoorTie
import Derived.Test.YtmopgapeibdpoaaDoorBase
import Derived.Test.YtmopgapeibdpoaaDoorLow
import Derived.Test.YtmopgapeibdpoaaDoorDoorLow
import Derived.Test.YtmopgapeibdpoaaDoorSlice
import Derived.Test.YtmopgapeibdpoaaDoorIntRow
import Derived.Test.YtmopgapeibdpoaaDoorInts
import Derived.Test.YtmopgapeibdpoaaDoorSurf
import Derived.Test.YtmopgapeibdpoaaDoorSurfI
import Derived.Test.YtmopgapeibdpoaaDoorSurfSum
import Derived.Test.YtmopgapeibdpoaaDoorSurfName
import Derived.Test.YtmopgapeibdpoaaDoorReadSurf
import Derived.Deep.DeepWitnessRowRef
import Derived.OpenShut
import Derived.Deep.DeepHandedRow
import Derived.LaidMore
namespace Go.Proofs.YtmopgapeibdpoaaDoor.fnExactSurfaceName
open Go.ChangeShapes Go.WideShapes Go.ChangeAt Go.RowKit Go.Sort
open Go.ChangeMaps (open_string)

theorem gTabType : (Tryd.prog.globals[1]?).map (·.type) = some 123 := by kernel_rfl
theorem cellsArr : Tryd.prog.cellsOf 123 = 20 := by kernel_rfl
theorem cellsElem : Tryd.prog.cellsOf 118 = 1 := by kernel_rfl
/-- What the row's list gives: the table of the powers of ten. -/
theorem table {W : World} (h : laidMetH Tryd.prog Rows.fnExactSurfaceNameRow.laid W) : Tab W := by
  have h1 := laidMetH.filter (fun x => x.1 == "internal/strconv.uint64pow10") h
  have e : Rows.fnExactSurfaceNameRow.laid.filter (fun x => x.1 == "internal/strconv.uint64pow10") = [("internal/strconv.uint64pow10", Lib.tabData .u64 Lib.pow10Tab)] := by rfl
  rw [e] at h1
  exact Lib.tabIs_of_head (rest := []) gTab gTabType Tryd.underlying123 Tryd.underlying118 cellsElem cellsArr h1
set_option maxRecDepth 10000 in
set_option maxHeartbeats 4000000 in
theorem law (x y z : Int) (w : World) (hb : I64s [x, y, z]) (htab : Tab w) :
    Calls Tryd.prog 5 #[.agg #[.int .i64 x, .int .i64 y, .int .i64 z]] w fun e w' => e = .returned (.bool true) ∧ Below w.heap.size w w' := by
  have hs := fun W => spec_SurfaceName x y z W hb
  have hi := fun W (ht : Tab W) => impl_SurfaceName x y z W ht hb
  have Ht := Lib.hid (fun W (hb : Below w.heap.size w W) => htab.below hb)
  generalize Surf.named x y z = v at *
  have Hs := Lib.hid hs; have Hi := Lib.hid hi; clear hs hi hb htab
  generalize hN : w.heap.size = N at *
  have HN := Lib.hid hN; have hN0 := Lib.hid (Nat.le_of_eq hN.symm)
  go_enter Tryd.func5, Tryd.ntmps5
  go_wp2_with fail
  refine (toSurface x y z _).mono ?_
  rintro e w1 ⟨rfl, hb1⟩
  obtain ⟨hA, hl⟩ := Blk.of1 HN.out hb1 (by have := HN.out; simp; omega)
  have HB1_0 := Lib.hid hA
  obtain ⟨_, _, _, _, _, _⟩ := hA.six
  clear hA
  have Hl := Lib.hid hl
  clear hl hb1
  go_wp2_with fail
  refine (Hs.out _).mono ?_
  rintro e w2 ⟨rfl, hb2⟩
  have hx0 := HB1_0.out.below hb2 HB1_0.out.lt
  have hl := Hl.out.trans (hb2.mono (by have := hN0.out; have := Hl.out.size; omega))
  clear Hl HB1_0
  have HB2_0 := Lib.hid hx0
  obtain ⟨_, _, _, _, _, _⟩ := hx0.six
  clear hx0
  have Hl := Lib.hid hl
  clear hl hb2
  go_wp2_with fail
  refine (toSurface x y z _).mono ?_
  rintro e w3 ⟨rfl, hb3⟩
  have hx0 := HB2_0.out.below hb3 HB2_0.out.lt
  have hl := Hl.out.trans (hb3.mono (by have := hN0.out; have := Hl.out.size; omega))
  clear Hl HB2_0
  have HB3_0 := Lib.hid hx0
  obtain ⟨_, _, _, _, _, _⟩ := hx0.six
  clear hx0
  have Hl := Lib.hid hl
  clear hl hb3
  go_wp2_with fail
  refine (Hi.out _ (Ht.out _ Hl.out)).mono ?_
  rintro e w4 ⟨rfl, hb4⟩
  have hx0 := HB3_0.out.below hb4 HB3_0.out.lt
  have hl := Hl.out.trans (hb4.mono (by have := hN0.out; have := Hl.out.size; omega))
  clear Hl HB3_0
  have HB4_0 := Lib.hid hx0
  obtain ⟨_, _, _, _, _, _⟩ := hx0.six
  clear hx0
  have Hl := Lib.hid hl
  clear hl hb4
  go_wp2
  go_ret
  exact ⟨rfl, Hl.out⟩

set_option maxRecDepth 100000 in
theorem contract (H : Type) (enc : TypeId × Value → H) (W : World) (base : Nat) (args : Array Value) (ds gs : List (DataW H)) (before : List MemPlace)
    (hval : ∀ (j : Nat) t v, Tryd.f5.params[j]? = some t → args[j]? = some v → Value.okWide Tryd.prog W .any base t v)
    (hW : DataW.Whole enc Tryd.prog Tryd.f5.params.toList Rows.fnExactSurfaceNameSpec.vars false W args.toList ds gs before) (hL : laidMetH Tryd.prog Rows.fnExactSurfaceNameRow.laid W) :
    Calls Tryd.prog 5 args W fun e W' => ∃ v, e = .returned v ∧ Rows.fnExactSurfaceNameSpec.post enc Tryd.prog Tryd.f5 false true false false W args v W' := by
  have hW' := hW
  obtain ⟨p, q, hA0, hV, rfl, hfz, hnd⟩ := hW
  have hA : DataW.TrodAll enc Tryd.prog W 0 (fun _ => true) true Tryd.f5.params.toList args.toList ds p := hA0
  rw [Tryd.params5] at hA hval
  obtain ⟨v0, vs0, d0, ds0, p0, q0, hargs, rfl, rfl, h0, r0⟩ := trodAll_cons hA
  obtain ⟨rfl, rfl, rfl⟩ := trodAll_nil r0
  obtain rfl : args = #[v0] := by cases args; simp_all
  obtain ⟨rfl, rfl⟩ := trodVars_none hV
  have k0 := h0
  obtain ⟨xS, yS, zS, rfl, wS⟩ := Read.surface_of (hval 0 49 v0 rfl rfl) h0
  clear hA0
  simp only [List.append_nil] at hW'
  refine (law xS yS zS W wS (table hL)).mono fun e W' ⟨he, hg⟩ => ?_
  subst he
  exact ⟨_, rfl, post_of_below (pv := []) hW' (fun _ _ _ => trodAll_cons_mk (shut_bool Tryd.underlying4 _) trodAll_mk0)
    (fun sp hs => trodAll_cons_mk (trod_keeps (t := 49) (by kernel_rfl) (by kernel_rfl) (by kernel_rfl) k0 hg (fun x hx => hW'.lt x (by simp_all)) (fun x hx => hs x (by simp_all))) (trodAll_mk0))
    (fun _ _ => rfl) (by simp) hg (ok_one (by kernel_rfl) rfl (okWide_bool_mk Tryd.underlying4 _))⟩

theorem laid_met (os : Os) : laidMetH Tryd.prog Rows.fnExactSurfaceNameRow.laid ((World.doorLaid Tryd.prog 34 os).forCall (fun _ _ => 0) ⟨#[], #[.agg #[.int .i64 0, .int .i64 0, .int .i64 0]], []⟩).memory :=
  Low.met os #[.agg #[.int .i64 0, .int .i64 0, .int .i64 0]] Rows.fnExactSurfaceNameRow.laid (Rows.fnExactSurfaceNameRow.laid.map (·.1)) (by rfl)
theorem reads (os : Os) {H : Type} (enc : TypeId × Value → H) : ∃ places, DataW.whole enc Tryd.prog ((World.doorLaid Tryd.prog 34 os).forCall (fun _ _ => 0) ⟨#[], #[.agg #[.int .i64 0, .int .i64 0, .int .i64 0]], []⟩).memory Tryd.f5.params.toList Rows.fnExactSurfaceNameSpec.vars false (#[.agg #[.int .i64 0, .int .i64 0, .int .i64 0]] : Array Value).toList 8 = some ([.agg [.lit (.int .i64 0), .lit (.int .i64 0), .lit (.int .i64 0)]], [], places) :=
  ⟨[], by kernel_rfl⟩

set_option maxRecDepth 100000 in
theorem lifted (os : Os) (started : os.Started) (H : Type) (enc : TypeId × Value → H) (F : Stop.Interp) :
    ReturnsInHanded {} Tryd.checked os 5 .any ((OpenSpec.ofChange Rows.fnExactSurfaceNameSpec).preRow enc Tryd.prog Tryd.f5 Rows.fnExactSurfaceNameRow.domain false Rows.fnExactSurfaceNameRow.laid) (((OpenSpec.ofChange Rows.fnExactSurfaceNameSpec).at F).post enc Tryd.prog Tryd.f5 false true false false) := by
  obtain ⟨places, hx⟩ := reads os enc
  refine returnsInHanded_of_row (C := Tryd.checked) (s := OpenSpec.ofChange Rows.fnExactSurfaceNameSpec) Low.own started (by kernel_rfl) Tryd.func5
    (witness_row_atRef (enc := enc) (C := Tryd.checked) false (World.doorLaid Tryd.prog 34 os) #[.agg #[.int .i64 0, .int .i64 0, .int .i64 0]] (by unfold World.doorLaid; rfl) (Low.shapeB os #[.agg #[.int .i64 0, .int .i64 0, .int .i64 0]]) (Low.shapeR os #[.agg #[.int .i64 0, .int .i64 0, .int .i64 0]]) (by kernel_rfl)
      (OpenSpec.preRow_of_cond 8 hx (by kernel_rfl) (fun k hk => by cases hk) (by kernel_rfl) (laid_met os))) ?_
  intro W base args ds gs before hval hW _ _ _ hL hShaped _
  exact contract H enc W base args ds gs before hval hW hL

theorem said : Rows.FnExactSurfaceNameSaid :=
  OpenClaim.holds_of_cond 5 Tryd.f5 rfl rfl rfl rfl rfl rfl rfl ⟨rfl, rfl, rfl, rfl, rfl⟩ rfl rfl rfl rfl rfl (by kernel_rfl) Tryd.func5 (by kernel_rfl)
    (of_decide_eq_true (by kernel_rfl)) (by unfold Func.isWrapper; first | (rw [if_pos (by decide +kernel)]; kernel_rfl) | (rw [if_neg (by decide +kernel)]; exact ⟨rfl, rfl⟩))
    (fun os started H enc _ F => by rw [OpenClaim.pre_eq_preRow]; exact lifted os started H enc F)

theorem looks (f : FuncId) (fn : Func) (hf : Tryd.pinned.checked.prog.funcNamed "loop.example/g03105/laws.FnExactSurfaceName" = some f) (hfn : Tryd.pinned.checked.prog.funcs[f]? = some fn) :
    false = Tryd.pinned.checked.prog.looks [] ∧ ∀ (j : Nat) t, fn.params[j]? = some t → Tryd.pinned.checked.prog.wantsStandIn t = false := by
  obtain rfl : f = 5 := Option.some.inj ((show Tryd.prog.funcNamed "loop.example/g03105/laws.FnExactSurfaceName" = some 5 by kernel_rfl).symm.trans hf) |>.symm
  obtain rfl : fn = Tryd.f5 := (Option.some.inj (Tryd.func5.symm.trans hfn)).symm
  refine ⟨by kernel_rfl, fun j t ht => ?_⟩
  rw [Tryd.params5] at ht
  have hm : t ∈ [49] := by simpa using Array.mem_of_getElem? ht
  have hall : ([49].all fun u => !Tryd.prog.wantsStandIn u) = true := by kernel_rfl
  exact (show Tryd.prog.wantsStandIn t = false by simpa using List.all_eq_true.1 hall t hm)

theorem card : Rows.FnExactSurfaceNameCardSaid :=
  Claim7.holds_tied_plain_at .later [] _ _ _ _ said (fun _ h => by cases h) (by kernel_rfl) (fun _ h => by cases h) fnExactSurfaceName_row_tie rfl ⟨rfl, rfl⟩ (by kernel_rfl) rfl looks (by kernel_rfl)
end Go.Proofs.YtmopgapeibdpoaaDoor.fnExactSurfaceName
