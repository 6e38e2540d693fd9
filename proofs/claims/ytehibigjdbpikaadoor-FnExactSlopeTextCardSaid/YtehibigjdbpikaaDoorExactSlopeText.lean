/-
  At every argument the program's SlopeText returns what the model returns, writes into no argument, and its answer owns its memory.
-/
import Derived.Test.YtehibigjdbpikaaDoorCards
import Derived.Test.YtehibigjdbpikaaDoorTie
import Derived.Test.YtehibigjdbpikaaDoorBase
import Derived.Test.YtehibigjdbpikaaDoorLow
import Derived.Test.YtehibigjdbpikaaDoorDoorLow
import Derived.Test.YtehibigjdbpikaaDoorSlice
import Derived.Test.YtehibigjdbpikaaDoorIntRow
import Derived.Test.YtehibigjdbpikaaDoorInts
import Derived.Test.YtehibigjdbpikaaDoorOwn
import Derived.Test.YtehibigjdbpikaaDoorTw
import Derived.Test.YtehibigjdbpikaaDoorTwErr
import Derived.Test.YtehibigjdbpikaaDoorSl
import Derived.Test.YtehibigjdbpikaaDoorSlK
import Derived.Test.YtehibigjdbpikaaDoorSlA
import Derived.Test.YtehibigjdbpikaaDoorSlB
import Derived.Test.YtehibigjdbpikaaDoorSlS
import Derived.Test.YtehibigjdbpikaaDoorFmt
import Derived.Test.YtehibigjdbpikaaDoorNum
import Derived.Test.YtehibigjdbpikaaDoorRead
import Derived.Test.YtehibigjdbpikaaDoorParse
import Derived.Test.YtehibigjdbpikaaDoorSlTx
import Derived.Deep.DeepWitnessRowRef
import Derived.OpenShut
import Derived.Deep.DeepHandedRow
import Derived.LaidMore
import Derived.Stop.LaidErr
import Derived.Deep.RegionHeld3
import Derived.Deep.RegionWith
import Derived.Deep.CutRange
namespace Go.Proofs.YtehibigjdbpikaaDoor.fnExactSlopeText
open Go.ChangeShapes Go.WideShapes Go.ChangeAt Go.RowKit Go.Sort
open Go.ChangeMaps (open_string)
set_option linter.unusedVariables false
set_option linter.unusedSimpArgs false

set_option maxRecDepth 10000 in
set_option maxHeartbeats 2000000 in
theorem law (x y : Int) (w : World) (_ : I64s [x, y]) (hE : Errs w) (hL : Lib.TabIs Tryd.prog w "internal/strconv.uint64pow10" .u64 Lib.pow10Tab) :
    Calls Tryd.prog 5 #[.agg #[.int .i64 x, .int .i64 y]] w fun e w' => e = .returned (.bool true) ∧ Below w.heap.size w w' := by
  have hs := fun W => spec_SlopeText x y W
  have hi := fun W (hb : Below w.heap.size w W) => impl_SlopeText x y W (hE.keeps hb) (var_keeps hb gTab hL)
  generalize Sl.text x y = v at *
  have Hs := Lib.hid hs; have Hi := Lib.hid hi
  have HA := Lib.hid (Blk.new w 23 #[.int .i64 x, .int .i64 y])
  have Hl := Lib.hid ((Below.refl w.heap.size w).alloc (Nat.le_refl _) (.cells #[.int .i64 x, .int .i64 y] 23))
  clear hs hi hE hL
  go_enter Tryd.func5, Tryd.ntmps5
  go_wp2_with fail
  refine (toSlope x y _).mono ?_
  rintro e w1 ⟨rfl, hb⟩
  have hA := HA.out.below hb HA.out.lt
  have hl := Hl.out.trans (hb.mono Hl.out.size)
  obtain ⟨_, _, _, _⟩ := hA.four
  have HA := Lib.hid hA; have Hl := Lib.hid hl
  clear hb hA hl
  go_wp2_with fail
  refine (Hs.out _).mono ?_
  rintro e w2 ⟨rfl, hb⟩
  have hA := HA.out.below hb HA.out.lt
  have hl := Hl.out.trans (hb.mono Hl.out.size)
  obtain ⟨_, _, _, _⟩ := hA.four
  have HA := Lib.hid hA; have Hl := Lib.hid hl
  clear hb hA hl
  go_wp2_with fail
  refine (toSlope x y _).mono ?_
  rintro e w3 ⟨rfl, hb⟩
  have hA := HA.out.below hb HA.out.lt
  have hl := Hl.out.trans (hb.mono Hl.out.size)
  obtain ⟨_, _, _, _⟩ := hA.four
  have HA := Lib.hid hA; have Hl := Lib.hid hl
  clear hb hA hl
  go_wp2_with fail
  refine (Hi.out _ Hl.out).mono ?_
  rintro e w4 ⟨rfl, hb⟩
  have hA := HA.out.below hb HA.out.lt
  have hl := Hl.out.trans (hb.mono Hl.out.size)
  obtain ⟨_, _, _, _⟩ := hA.four
  have HA := Lib.hid hA; have Hl := Lib.hid hl
  clear hb hA hl
  go_wp2
  go_ret
  exact ⟨rfl, Hl.out⟩

set_option maxRecDepth 100000 in
theorem contract (H : Type) (enc : TypeId × Value → H) (W : World) (base : Nat) (args : Array Value) (ds gs : List (DataW H)) (before : List MemPlace)
    (hval : ∀ (j : Nat) t v, Tryd.f5.params[j]? = some t → args[j]? = some v → Value.okWide Tryd.prog W .any base t v)
    (hW : DataW.Whole enc Tryd.prog Tryd.f5.params.toList Rows.fnExactSlopeTextSpec.vars false W args.toList ds gs before) (hL : laidMetH Tryd.prog Rows.fnExactSlopeTextRow.laid W) :
    Calls Tryd.prog 5 args W fun e W' => ∃ v, e = .returned v ∧ Rows.fnExactSlopeTextSpec.post enc Tryd.prog Tryd.f5 false true false false W args v W' := by
  have hW' := hW
  obtain ⟨p, q, hA0, hV, rfl, hfz, hnd⟩ := hW
  have hA : DataW.TrodAll enc Tryd.prog W 0 (fun _ => true) true Tryd.f5.params.toList args.toList ds p := hA0
  rw [Tryd.params5] at hA hval
  obtain ⟨v0, vs0, d0, ds0, p0, q0, hargs, rfl, rfl, h0, r0⟩ := trodAll_cons hA
  obtain ⟨rfl, rfl, rfl⟩ := trodAll_nil r0
  obtain rfl : args = #[v0] := by cases args; simp_all
  have hV : DataW.TrodVars enc Tryd.prog W (fun _ => true) ["loop.example/g03105/impl.errTooGreat"] gs q := hV
  obtain ⟨sa, hsv⟩ := Er.var_of hL (by rfl)
  have hvr : ∀ {X : World}, X.var? Tryd.prog "loop.example/g03105/impl.errTooGreat" = some #[.iface 117 (.pointer (some sa))] → ∀ sp : Nat → Bool, DataW.TrodVars enc Tryd.prog X sp ["loop.example/g03105/impl.errTooGreat"] [tok enc (.iface 117 (.pointer (some sa)))] [.cell 0 0] :=
    fun x0 sp => vars_read1 enc Er.gGreat Er.tGreat Tryd.underlying60 x0 trivial sp
  obtain ⟨rfl, rfl⟩ := hV.unique (hvr hsv _)
  have k0 := h0
  obtain ⟨xS, yS, rfl, wS⟩ := Read.slope_of (hval 0 23 v0 rfl rfl) h0
  clear hA0
  simp only [List.append_nil] at hW'
  refine (law xS yS W wS (errs_of hL (by rfl)) (tab_of hL (by rfl))).mono fun e W' ⟨he, hg⟩ => ?_
  subst he
  exact ⟨_, rfl, post_of_below (pv := [.cell 0 0]) hW' (fun _ _ _ => trodAll_cons_mk (shut_bool Tryd.underlying4 _) trodAll_mk0)
    (fun sp hs => trodAll_cons_mk (trod_keeps (t := 23) (by kernel_rfl) (by kernel_rfl) (by kernel_rfl) k0 hg (fun x hx => hW'.lt x (by simp_all)) (fun x hx => hs x (by simp_all))) (trodAll_mk0))
    (fun sp _ => hvr (Er.var_keeps hg Er.gGreat hsv) sp) (by simp) hg (ok_one (by kernel_rfl) rfl (okWide_bool_mk Tryd.underlying4 _))⟩

theorem laid_met (os : Os) : laidMetH Tryd.prog Rows.fnExactSlopeTextRow.laid ((World.doorLaid Tryd.prog 81 os).forCall (fun _ _ => 0) ⟨#[], #[.agg #[.int .i64 0, .int .i64 0]], []⟩).memory :=
  Low.met os #[.agg #[.int .i64 0, .int .i64 0]] Rows.fnExactSlopeTextRow.laid (Rows.fnExactSlopeTextRow.laid.map (·.1)) (by rfl)
set_option maxRecDepth 100000 in
theorem lifted (os : Os) (started : os.Started) (H : Type) (enc : TypeId × Value → H) (F : Stop.Interp) :
    ReturnsInHanded {} Tryd.checked os 5 .any ((OpenSpec.ofChange Rows.fnExactSlopeTextSpec).preRow enc Tryd.prog Tryd.f5 Rows.fnExactSlopeTextRow.domain false Rows.fnExactSlopeTextRow.laid) (((OpenSpec.ofChange Rows.fnExactSlopeTextSpec).at F).post enc Tryd.prog Tryd.f5 false true false false) := by
  refine returnsInHanded_of_row (C := Tryd.checked) (s := OpenSpec.ofChange Rows.fnExactSlopeTextSpec) Low.own started (by kernel_rfl) Tryd.func5
    (witness_row_atRef (enc := enc) (C := Tryd.checked) false (World.doorLaid Tryd.prog 81 os) #[.agg #[.int .i64 0, .int .i64 0]] (by unfold World.doorLaid; rfl) (Low.shapeB os #[.agg #[.int .i64 0, .int .i64 0]]) (Low.shapeR os #[.agg #[.int .i64 0, .int .i64 0]]) (by kernel_rfl)
      (OpenSpec.preRow_of_B rfl 8 (by kernel_rfl) (by kernel_rfl) (laid_met os))) ?_
  intro W base args ds gs before hval hW _ _ _ hL hShaped _
  exact contract H enc W base args ds gs before hval hW hL

theorem said : Rows.FnExactSlopeTextSaid :=
  OpenClaim.holds_of_cond 5 Tryd.f5 rfl rfl rfl rfl rfl rfl rfl ⟨rfl, rfl, rfl, rfl, rfl⟩ rfl rfl rfl rfl rfl (by kernel_rfl) Tryd.func5 (by kernel_rfl)
    (of_decide_eq_true (by kernel_rfl)) (by unfold Func.isWrapper; first | (rw [if_pos (by decide +kernel)]; kernel_rfl) | (rw [if_neg (by decide +kernel)]; exact ⟨rfl, rfl⟩))
    (fun os started H enc _ F => by rw [OpenClaim.pre_eq_preRow]; exact lifted os started H enc F)

theorem looks (f : FuncId) (fn : Func) (hf : Tryd.pinned.checked.prog.funcNamed "loop.example/g03105/laws.FnExactSlopeText" = some f) (hfn : Tryd.pinned.checked.prog.funcs[f]? = some fn) :
    true = Tryd.pinned.checked.prog.looks [] ∧ ∀ (j : Nat) t, fn.params[j]? = some t → Tryd.pinned.checked.prog.wantsStandIn t = false := by
  obtain rfl : f = 5 := Option.some.inj ((show Tryd.prog.funcNamed "loop.example/g03105/laws.FnExactSlopeText" = some 5 by kernel_rfl).symm.trans hf) |>.symm
  obtain rfl : fn = Tryd.f5 := (Option.some.inj (Tryd.func5.symm.trans hfn)).symm
  refine ⟨by kernel_rfl, fun j t ht => ?_⟩
  rw [Tryd.params5] at ht
  have hm : t ∈ [23] := by simpa using Array.mem_of_getElem? ht
  have hall : ([23].all fun u => !Tryd.prog.wantsStandIn u) = true := by kernel_rfl
  exact (show Tryd.prog.wantsStandIn t = false by simpa using List.all_eq_true.1 hall t hm)

theorem card : Rows.FnExactSlopeTextCardSaid :=
  Claim7.holds_tied_plain_at .later [] _ _ _ _ said (fun _ h => by cases h) (by kernel_rfl) (fun _ h => by cases h) fnExactSlopeText_row_tie rfl ⟨rfl, rfl⟩ (by kernel_rfl) rfl looks (by kernel_rfl)
end Go.Proofs.YtehibigjdbpikaaDoor.fnExactSlopeText
