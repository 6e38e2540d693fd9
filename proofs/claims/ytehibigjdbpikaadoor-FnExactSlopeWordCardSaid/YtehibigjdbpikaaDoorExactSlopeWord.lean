/-
  At every argument the program's SlopeWord returns what the model returns, writes into no argument, and its answer owns its memory.
-/
import Derived.Test.YtehibigjdbpikaaDoorCards
import Derived.Test.YtehibigjdbpikaaDoorTie
import Derived.Test.YtehibigjdbpikaaDoorBase
import Derived.Test.YtehibigjdbpikaaDoorLow
import Derived.Test.YtehibigjdbpikaaDoorDoorLow
import Derived.Test.YtehibigjdbpikaaDoorSlice
import Derived.Test.YtehibigjdbpikaaDoorIntRow
import Derived.Test.YtehibigjdbpikaaDoorInts
import Derived.Test.YtehibigjdbpikaaDoorOwn
import Derived.Test.YtehibigjdbpikaaDoorGrid
import Derived.Test.YtehibigjdbpikaaDoorGridWalk
import Derived.Test.YtehibigjdbpikaaDoorGridWalk2
import Derived.Test.YtehibigjdbpikaaDoorGridMark
import Derived.Test.YtehibigjdbpikaaDoorTw
import Derived.Test.YtehibigjdbpikaaDoorTwErr
import Derived.Test.YtehibigjdbpikaaDoorSl
import Derived.Test.YtehibigjdbpikaaDoorSlK
import Derived.Test.YtehibigjdbpikaaDoorSlA
import Derived.Test.YtehibigjdbpikaaDoorSlB
import Derived.Test.YtehibigjdbpikaaDoorSlS
import Derived.Test.YtehibigjdbpikaaDoorHeld
import Derived.Test.YtehibigjdbpikaaDoorRowI
import Derived.Test.YtehibigjdbpikaaDoorSlW
import Derived.Deep.DeepWitnessRowRef
import Derived.OpenShut
import Derived.Deep.DeepHandedRow
import Derived.LaidMore
import Derived.Stop.LaidErr
namespace Go.Proofs.YtehibigjdbpikaaDoor.fnExactSlopeWord
open Go.ChangeShapes Go.WideShapes Go.ChangeAt Go.RowKit Go.Sort
open Go.ChangeMaps (open_string)
set_option linter.unusedVariables false
set_option linter.unusedSimpArgs false

set_option maxRecDepth 10000 in
set_option maxHeartbeats 2000000 in
theorem law (xS yS : Int) (w : World) (_ : I64s [xS, yS]) (hsh : Errs w) :
    Calls Tryd.prog 10 #[.agg #[.int .i64 xS, .int .i64 yS]] w fun e w' => e = .returned (.bool true) ∧ Below w.heap.size w w' := by
  have hZB0 := Below.refl w.heap.size w
  have hsh := Lib.hid hsh
  have hZN0 := Lib.hid ((Nat.le_trans (Sl.word_tot xS yS) (by decide)) : (Sl.word xS yS).length ≤ 1000000)
  have c_spec := fun  (W : World)  => spec_SlopeWord xS yS W 
  have c_impl := fun  (W : World) (hsW : Errs W)  => impl_SlopeWord xS yS W hsW 
  generalize hV0 : Sl.word xS yS = R0 at *
  clear hV0
  generalize hV1 : (decide (Sl.WordOk xS yS)) = S1 at *
  clear hV1
  have Hs := Lib.hid c_spec; have Hi := Lib.hid c_impl; clear c_spec c_impl
  go_enter Tryd.func10, Tryd.ntmps10
  have h1 : Below w.heap.size w (w.alloc (.cells #[.int .i64 xS, .int .i64 yS] 23)) := (Below.refl _ _).alloc (Nat.le_refl _) _
  have h2 := Lib.hid (h1.size)
  have hZB3 : Below w.heap.size w (w.alloc (.cells #[.int .i64 xS, .int .i64 yS] 23)) := hZB0.trans (h1.mono hZB0.size)
  clear h1
  have h4 := Lib.hid (show (w.alloc (.cells #[.int .i64 xS, .int .i64 yS] 23)).heap.size = w.heap.size + 1 from by simp)
  have h5 := Lib.hid (show Blk (w.alloc (.cells #[.int .i64 xS, .int .i64 yS] 23)) w.heap.size 23 #[.int .i64 xS, .int .i64 yS] from Blk.new w _ _)
  obtain ⟨q6_0, q6_1, q6_2, q6_3⟩ := h5.out.four
  go_wp2_with fail
  refine (toSlope xS yS _).mono ?_
  rintro e w1 ⟨rfl, h7⟩
  have h8 := Lib.hid (h7.size)
  have hZB9 : Below w.heap.size w w1 := hZB3.trans (h7.mono hZB3.size)
  have h10 := Lib.hid (h5.out.below h7 h5.out.lt); clear h5
  clear q6_0 q6_1 q6_2 q6_3
  obtain ⟨q11_0, q11_1, q11_2, q11_3⟩ := h10.out.four
  clear h7
  go_wp2_with fail
  refine (Hs.out  w1 ).mono ?_
  rintro e w2 ⟨ra13, rc14, rfl, _, _, hf15, h12⟩
  have h16 := Lib.hid (hf15.row); clear hf15
  have h17 := Lib.hid (h12.size)
  have hZB18 : Below w.heap.size w w2 := hZB9.trans (h12.mono hZB9.size)
  have h19 := Lib.hid (h10.out.below h12 h10.out.lt); clear h10
  clear q11_0 q11_1 q11_2 q11_3
  obtain ⟨q20_0, q20_1, q20_2, q20_3⟩ := h19.out.four
  clear h12
  have h21 := Lib.hid (Below.refl w2.heap.size w2)
  go_wp2_with fail
  refine (toSlope xS yS _).mono ?_
  rintro e w3 ⟨rfl, h22⟩
  have h23 := Lib.hid (h22.size)
  have hZB24 : Below w.heap.size w w3 := hZB18.trans (h22.mono hZB18.size)
  have h25 := Lib.hid (h21.out.trans (h22.mono h21.out.size)); clear h21
  have h26 := Lib.hid (h19.out.below h22 h19.out.lt); clear h19
  clear q20_0 q20_1 q20_2 q20_3
  obtain ⟨q27_0, q27_1, q27_2, q27_3⟩ := h26.out.four
  clear h22
  go_wp2_with fail
  refine (Hi.out  w3 (Errs.keeps hsh.out hZB24) ).mono ?_
  rintro e w4 ⟨ra29, rc30, rfl, _, _, hf31, h28⟩
  have h32 := Lib.hid (RowIn.of_fresh hf31); clear hf31
  have h33 := Lib.hid (h28.size)
  have hZB34 : Below w.heap.size w w4 := hZB24.trans (h28.mono hZB24.size)
  have h35 := Lib.hid (h25.out.trans (h28.mono h25.out.size)); clear h25
  have h36 := Lib.hid (h26.out.below h28 h26.out.lt); clear h26
  clear q27_0 q27_1 q27_2 q27_3
  obtain ⟨q37_0, q37_1, q37_2, q37_3⟩ := h36.out.four
  clear h28
  go_wp2_with fail
  refine (eqIntS ra29 ra13 rc30 rc14 R0 w4 h32.out.row (h16.out.below h35.out) (Nat.le_trans hZN0.out (by decide))).mono ?_
  rintro e w5 ⟨rfl, h38⟩
  have h39 := Lib.hid (h38.size)
  have hZB40 : Below w.heap.size w w5 := hZB34.trans (h38.mono hZB34.size)
  have h41 := Lib.hid (h35.out.trans (h38.mono h35.out.size)); clear h35
  have h42 := Lib.hid (h32.out.below h38); clear h32
  have h43 := Lib.hid (h36.out.below h38 h36.out.lt); clear h36
  clear q37_0 q37_1 q37_2 q37_3
  obtain ⟨q44_0, q44_1, q44_2, q44_3⟩ := h43.out.four
  clear h38
  go_wp2_with fail
  refine (markIntS_only ra29 rc30 1 w3.heap.size w4.heap.size R0 w5 h42.out (by have := h2.out; have := h4.out; have := h8.out; have := h17.out; have := h23.out; have := h33.out; have := h39.out; have := hZN0.out; omega) (by have := h2.out; have := h4.out; have := h8.out; have := h17.out; have := h23.out; have := h33.out; have := h39.out; have := hZN0.out; omega)).mono ?_
  rintro e w6 ⟨rfl, h46, h45⟩
  have hZB47 : Below w.heap.size w w6 := hZB40.trans (h45.below (by have := h2.out; have := h4.out; have := h8.out; have := h17.out; have := h23.out; have := h33.out; have := h39.out; have := hZN0.out; omega) hZB40.size)
  have h48 := Lib.hid (h41.out.trans (h45.below (by have := h2.out; have := h4.out; have := h8.out; have := h17.out; have := h23.out; have := h33.out; have := h39.out; have := hZN0.out; omega) h41.out.size)); clear h41
  have h49 := Lib.hid (h45.block h43.out (by have := h2.out; have := h4.out; have := h8.out; have := h17.out; have := h23.out; have := h33.out; have := h39.out; have := hZN0.out; omega)); clear h43
  have h50 := Lib.hid (h45.size)
  clear q44_0 q44_1 q44_2 q44_3
  obtain ⟨q51_0, q51_1, q51_2, q51_3⟩ := h49.out.four
  clear h45 h42
  have h52 := Lib.hid (h46); clear h46
  go_wp2_with fail
  refine (heldIntS ra29 R0.length rc30 1 w6 h52.out.row (by have := h2.out; have := h4.out; have := h8.out; have := h17.out; have := h23.out; have := h33.out; have := h39.out; have := h50.out; have := hZN0.out; omega) (by have := h2.out; have := h4.out; have := h8.out; have := h17.out; have := h23.out; have := h33.out; have := h39.out; have := h50.out; have := hZN0.out; omega)).mono ?_
  rintro e w7 ⟨rfl, h53⟩
  have h54 := Lib.hid (h53.size)
  have hZB55 : Below w.heap.size w w7 := hZB47.trans (h53.mono hZB47.size)
  have h56 := Lib.hid (h48.out.trans (h53.mono h48.out.size)); clear h48
  have h57 := Lib.hid (h52.out.below h53); clear h52
  have h58 := Lib.hid (h49.out.below h53 h49.out.lt); clear h49
  clear q51_0 q51_1 q51_2 q51_3
  obtain ⟨q59_0, q59_1, q59_2, q59_3⟩ := h58.out.four
  clear h53
  go_wp2_with fail
  refine (toSlope xS yS _).mono ?_
  rintro e w8 ⟨rfl, h60⟩
  have h61 := Lib.hid (h60.size)
  have hZB62 : Below w.heap.size w w8 := hZB55.trans (h60.mono hZB55.size)
  have h63 := Lib.hid (h56.out.trans (h60.mono h56.out.size)); clear h56
  have h64 := Lib.hid (h57.out.below h60); clear h57
  have h65 := Lib.hid (h58.out.below h60 h58.out.lt); clear h58
  clear q59_0 q59_1 q59_2 q59_3
  obtain ⟨q66_0, q66_1, q66_2, q66_3⟩ := h65.out.four
  clear h60
  go_wp2_with fail
  refine (Hi.out  w8 (Errs.keeps hsh.out hZB62) ).mono ?_
  rintro e w9 ⟨ra68, rc69, rfl, _, _, hf70, h67⟩
  have h71 := Lib.hid (RowIn.of_fresh hf70); clear hf70
  have h72 := Lib.hid (h67.size)
  have hZB73 : Below w.heap.size w w9 := hZB62.trans (h67.mono hZB62.size)
  have h74 := Lib.hid (h63.out.trans (h67.mono h63.out.size)); clear h63
  have h75 := Lib.hid (h64.out.below h67); clear h64
  have h76 := Lib.hid (h65.out.below h67 h65.out.lt); clear h65
  clear q66_0 q66_1 q66_2 q66_3
  obtain ⟨q77_0, q77_1, q77_2, q77_3⟩ := h76.out.four
  clear h67
  go_wp2_with fail
  refine (eqIntS ra68 ra13 rc69 rc14 R0 w9 h71.out.row (h16.out.below h74.out) (Nat.le_trans hZN0.out (by decide))).mono ?_
  rintro e w10 ⟨rfl, h78⟩
  have h79 := Lib.hid (h78.size)
  have hZB80 : Below w.heap.size w w10 := hZB73.trans (h78.mono hZB73.size)
  have h81 := Lib.hid (h74.out.trans (h78.mono h74.out.size)); clear h74
  have h82 := Lib.hid (h75.out.below h78); clear h75
  have h83 := Lib.hid (h71.out.below h78); clear h71
  have h84 := Lib.hid (h76.out.below h78 h76.out.lt); clear h76
  clear q77_0 q77_1 q77_2 q77_3
  obtain ⟨q85_0, q85_1, q85_2, q85_3⟩ := h84.out.four
  clear h78
  go_wp2_with fail
  refine (heldIntS ra29 R0.length rc30 1 w10 h82.out.row (by have := h2.out; have := h4.out; have := h8.out; have := h17.out; have := h23.out; have := h33.out; have := h39.out; have := h50.out; have := h54.out; have := h61.out; have := h72.out; have := h79.out; have := hZN0.out; omega) (by have := h2.out; have := h4.out; have := h8.out; have := h17.out; have := h23.out; have := h33.out; have := h39.out; have := h50.out; have := h54.out; have := h61.out; have := h72.out; have := h79.out; have := hZN0.out; omega)).mono ?_
  rintro e w11 ⟨rfl, h86⟩
  have h87 := Lib.hid (h86.size)
  have hZB88 : Below w.heap.size w w11 := hZB80.trans (h86.mono hZB80.size)
  have h89 := Lib.hid (h81.out.trans (h86.mono h81.out.size)); clear h81
  have h90 := Lib.hid (h82.out.below h86); clear h82
  have h91 := Lib.hid (h83.out.below h86); clear h83
  have h92 := Lib.hid (h84.out.below h86 h84.out.lt); clear h84
  clear q85_0 q85_1 q85_2 q85_3
  obtain ⟨q93_0, q93_1, q93_2, q93_3⟩ := h92.out.four
  clear h86
  go_wp2
  go_ret
  exact ⟨rfl, hZB88⟩

set_option maxRecDepth 100000 in
theorem contract (H : Type) (enc : TypeId × Value → H) (W : World) (base : Nat) (args : Array Value) (ds gs : List (DataW H)) (before : List MemPlace)
    (hval : ∀ (j : Nat) t v, Tryd.f10.params[j]? = some t → args[j]? = some v → Value.okWide Tryd.prog W .any base t v)
    (hW : DataW.Whole enc Tryd.prog Tryd.f10.params.toList Rows.fnExactSlopeWordSpec.vars false W args.toList ds gs before) (hL : laidMetH Tryd.prog Rows.fnExactSlopeWordRow.laid W) :
    Calls Tryd.prog 10 args W fun e W' => ∃ v, e = .returned v ∧ Rows.fnExactSlopeWordSpec.post enc Tryd.prog Tryd.f10 false true false false W args v W' := by
  have hW' := hW
  obtain ⟨p, q, hA0, hV, rfl, hfz, hnd⟩ := hW
  have hA : DataW.TrodAll enc Tryd.prog W 0 (fun _ => true) true Tryd.f10.params.toList args.toList ds p := hA0
  rw [Tryd.params10] at hA hval
  obtain ⟨v0, vs0, d0, ds0, p0, q0, hargs, rfl, rfl, h0, r0⟩ := trodAll_cons hA
  obtain ⟨rfl, rfl, rfl⟩ := trodAll_nil r0
  obtain rfl : args = #[v0] := by cases args; simp_all
  have hV : DataW.TrodVars enc Tryd.prog W (fun _ => true) ["loop.example/g03105/impl.errTooGreat"] gs q := hV
  obtain ⟨sa, hsv⟩ := Er.var_of hL (by rfl)
  have hvr : ∀ {X : World}, X.var? Tryd.prog "loop.example/g03105/impl.errTooGreat" = some #[.iface 117 (.pointer (some sa))] → ∀ sp : Nat → Bool, DataW.TrodVars enc Tryd.prog X sp ["loop.example/g03105/impl.errTooGreat"] [tok enc (.iface 117 (.pointer (some sa)))] [.cell 0 0] :=
    fun x0 sp => vars_read1 enc Er.gGreat Er.tGreat Tryd.underlying60 x0 trivial sp
  obtain ⟨rfl, rfl⟩ := hV.unique (hvr hsv _)
  have k0 := h0
  obtain ⟨xS, yS, rfl, wS⟩ := Read.slope_of (hval 0 23 v0 rfl rfl) h0
  clear hA0
  simp only [List.append_nil] at hW'
  refine (law xS yS W wS (errs_of hL (by rfl))).mono fun e W' ⟨he, hg⟩ => ?_
  subst he
  exact ⟨_, rfl, post_of_below (pv := [.cell 0 0]) hW' (fun _ _ _ => trodAll_cons_mk (shut_bool Tryd.underlying4 _) trodAll_mk0)
    (fun sp hs => trodAll_cons_mk (trod_keeps (t := 23) (by kernel_rfl) (by kernel_rfl) (by kernel_rfl) k0 hg (fun x hx => hW'.lt x (by simp_all)) (fun x hx => hs x (by simp_all))) (trodAll_mk0))
    (fun sp _ => hvr (Er.var_keeps hg Er.gGreat hsv) sp) (by simp) hg (ok_one (by kernel_rfl) rfl (okWide_bool_mk Tryd.underlying4 _))⟩

theorem laid_met (os : Os) : laidMetH Tryd.prog Rows.fnExactSlopeWordRow.laid ((World.doorLaid Tryd.prog 81 os).forCall (fun _ _ => 0) ⟨#[], #[.agg #[.int .i64 0, .int .i64 0]], []⟩).memory :=
  Low.met os #[.agg #[.int .i64 0, .int .i64 0]] Rows.fnExactSlopeWordRow.laid (Rows.fnExactSlopeWordRow.laid.map (·.1)) (by rfl)
set_option maxRecDepth 100000 in
theorem lifted (os : Os) (started : os.Started) (H : Type) (enc : TypeId × Value → H) (F : Stop.Interp) :
    ReturnsInHanded {} Tryd.checked os 10 .any ((OpenSpec.ofChange Rows.fnExactSlopeWordSpec).preRow enc Tryd.prog Tryd.f10 Rows.fnExactSlopeWordRow.domain false Rows.fnExactSlopeWordRow.laid) (((OpenSpec.ofChange Rows.fnExactSlopeWordSpec).at F).post enc Tryd.prog Tryd.f10 false true false false) := by
  refine returnsInHanded_of_row (C := Tryd.checked) (s := OpenSpec.ofChange Rows.fnExactSlopeWordSpec) Low.own started (by kernel_rfl) Tryd.func10
    (witness_row_atRef (enc := enc) (C := Tryd.checked) false (World.doorLaid Tryd.prog 81 os) #[.agg #[.int .i64 0, .int .i64 0]] (by unfold World.doorLaid; rfl) (Low.shapeB os #[.agg #[.int .i64 0, .int .i64 0]]) (Low.shapeR os #[.agg #[.int .i64 0, .int .i64 0]]) (by kernel_rfl)
      (OpenSpec.preRow_of_B rfl 8 (by kernel_rfl) (by kernel_rfl) (laid_met os))) ?_
  intro W base args ds gs before hval hW _ _ _ hL hShaped _
  exact contract H enc W base args ds gs before hval hW hL

theorem said : Rows.FnExactSlopeWordSaid :=
  OpenClaim.holds_of_cond 10 Tryd.f10 rfl rfl rfl rfl rfl rfl rfl ⟨rfl, rfl, rfl, rfl, rfl⟩ rfl rfl rfl rfl rfl (by kernel_rfl) Tryd.func10 (by kernel_rfl)
    (of_decide_eq_true (by kernel_rfl)) (by unfold Func.isWrapper; first | (rw [if_pos (by decide +kernel)]; kernel_rfl) | (rw [if_neg (by decide +kernel)]; exact ⟨rfl, rfl⟩))
    (fun os started H enc _ F => by rw [OpenClaim.pre_eq_preRow]; exact lifted os started H enc F)

theorem looks (f : FuncId) (fn : Func) (hf : Tryd.pinned.checked.prog.funcNamed "loop.example/g03105/laws.FnExactSlopeWord" = some f) (hfn : Tryd.pinned.checked.prog.funcs[f]? = some fn) :
    true = Tryd.pinned.checked.prog.looks [] ∧ ∀ (j : Nat) t, fn.params[j]? = some t → Tryd.pinned.checked.prog.wantsStandIn t = false := by
  obtain rfl : f = 10 := Option.some.inj ((show Tryd.prog.funcNamed "loop.example/g03105/laws.FnExactSlopeWord" = some 10 by kernel_rfl).symm.trans hf) |>.symm
  obtain rfl : fn = Tryd.f10 := (Option.some.inj (Tryd.func10.symm.trans hfn)).symm
  refine ⟨by kernel_rfl, fun j t ht => ?_⟩
  rw [Tryd.params10] at ht
  have hm : t ∈ [23] := by simpa using Array.mem_of_getElem? ht
  have hall : ([23].all fun u => !Tryd.prog.wantsStandIn u) = true := by kernel_rfl
  exact (show Tryd.prog.wantsStandIn t = false by simpa using List.all_eq_true.1 hall t hm)

theorem card : Rows.FnExactSlopeWordCardSaid :=
  Claim7.holds_tied_plain_at .later [] _ _ _ _ said (fun _ h => by cases h) (by kernel_rfl) (fun _ h => by cases h) fnExactSlopeWord_row_tie rfl ⟨rfl, rfl⟩ (by kernel_rfl) rfl looks (by kernel_rfl)
end Go.Proofs.YtehibigjdbpikaaDoor.fnExactSlopeWord
