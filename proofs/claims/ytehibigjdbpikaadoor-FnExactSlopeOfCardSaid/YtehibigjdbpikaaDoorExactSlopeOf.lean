/-
  At every argument the program's SlopeOf returns what the model returns, writes into no argument, and its answer owns its memory.
-/
import Derived.Test.YtehibigjdbpikaaDoorCards
import Derived.Test.YtehibigjdbpikaaDoorTie
import Derived.Test.YtehibigjdbpikaaDoorBase
import Derived.Test.YtehibigjdbpikaaDoorLow
import Derived.Test.YtehibigjdbpikaaDoorDoorLow
import Derived.Test.YtehibigjdbpikaaDoorSlice
import Derived.Test.YtehibigjdbpikaaDoorIntRow
import Derived.Test.YtehibigjdbpikaaDoorInts
import Derived.Test.YtehibigjdbpikaaDoorOwn
import Derived.Test.YtehibigjdbpikaaDoorTw
import Derived.Test.YtehibigjdbpikaaDoorTwErr
import Derived.Test.YtehibigjdbpikaaDoorSl
import Derived.Test.YtehibigjdbpikaaDoorSlK
import Derived.Test.YtehibigjdbpikaaDoorSlA
import Derived.Test.YtehibigjdbpikaaDoorSlB
import Derived.Test.YtehibigjdbpikaaDoorSlS
import Derived.Deep.DeepWitnessRowRef
import Derived.OpenShut
import Derived.Deep.DeepHandedRow
import Derived.LaidMore
import Derived.Stop.LaidErr
import Derived.Deep.RegionHeld3
import Derived.Deep.RegionWith
import Derived.Deep.CutRange
namespace Go.Proofs.YtehibigjdbpikaaDoor.fnExactSlopeOf
open Go.ChangeShapes Go.WideShapes Go.ChangeAt Go.RowKit Go.Sort
open Go.ChangeMaps (open_string)
set_option linter.unusedVariables false
set_option linter.unusedSimpArgs false

set_option maxRecDepth 10000 in
set_option maxHeartbeats 2000000 in
theorem law (p : Int) (p0 : -9223372036854775808 ≤ p) (p1 : p ≤ 9223372036854775807) (q : Int) (q0 : -9223372036854775808 ≤ q) (q1 : q ≤ 9223372036854775807) (w : World) (hE : Errs w) :
    Calls Tryd.prog 4 #[.int .i64 p, .int .i64 q] w fun e w' => e = .returned (.bool true) ∧ Below w.heap.size w w' := by
  have hs := fun W => spec_SlopeOf p q W
  have hi := fun W (hb : Below w.heap.size w W) => impl_SlopeOf p q W (hE.keeps hb)
  generalize Sl.of p q = s at *
  generalize decide (Sl.OfOk p q) = b at *
  have Hs := Lib.hid hs; have Hi := Lib.hid hi
  clear hs hi hE p0 p1 q0 q1
  go_enter Tryd.func4, Tryd.ntmps4
  go_wp2_with fail
  refine (Hs.out _).mono ?_
  rintro e w1 ⟨rfl, hb⟩
  have Hl := Lib.hid (hb.alloc hb.size (.cells #[.int .i64 s.1, .int .i64 s.2] 25))
  clear hb
  go_wp2_with fail
  refine (Hi.out _ Hl.out).mono ?_
  rintro e w2 ⟨rfl, hb⟩
  have hK := (Blk.new w1 25 #[.int .i64 s.1, .int .i64 s.2]).below hb (by simp)
  have hne : w1.heap.size ≠ w2.heap.size := Nat.ne_of_lt hK.lt
  obtain ⟨_, _, _, _⟩ := hK.four
  obtain ⟨_, _, _, _⟩ := (hK.alloc (.cells #[.int .i64 s.1, .int .i64 s.2] 25)).four
  have Hl := Lib.hid (Hl.out.trans (hb.mono Hl.out.size))
  clear hb hK
  go_wp2_with fail
  refine (eqSlope s.1 s.2 _).mono ?_
  rintro e w3 ⟨rfl, hb⟩
  have Hl := Lib.hid ((Hl.out.alloc Hl.out.size (.cells #[.int .i64 s.1, .int .i64 s.2] 25)).trans (hb.mono (Hl.out.alloc Hl.out.size (.cells #[.int .i64 s.1, .int .i64 s.2] 25)).size))
  clear hb
  go_wp2
  go_ret
  exact ⟨rfl, Hl.out⟩

set_option maxRecDepth 100000 in
theorem contract (H : Type) (enc : TypeId × Value → H) (W : World) (base : Nat) (args : Array Value) (ds gs : List (DataW H)) (before : List MemPlace)
    (hval : ∀ (j : Nat) t v, Tryd.f4.params[j]? = some t → args[j]? = some v → Value.okWide Tryd.prog W .any base t v)
    (hW : DataW.Whole enc Tryd.prog Tryd.f4.params.toList Rows.fnExactSlopeOfSpec.vars false W args.toList ds gs before) (hL : laidMetH Tryd.prog Rows.fnExactSlopeOfRow.laid W) :
    Calls Tryd.prog 4 args W fun e W' => ∃ v, e = .returned v ∧ Rows.fnExactSlopeOfSpec.post enc Tryd.prog Tryd.f4 false true false false W args v W' := by
  have hW' := hW
  obtain ⟨p, q, hA0, hV, rfl, hfz, hnd⟩ := hW
  have hA : DataW.TrodAll enc Tryd.prog W 0 (fun _ => true) true Tryd.f4.params.toList args.toList ds p := hA0
  rw [Tryd.params4] at hA hval
  obtain ⟨v0, vs0, d0, ds0, p0, q0, hargs, rfl, rfl, h0, r0⟩ := trodAll_cons hA
  obtain ⟨v1, vs1, d1, ds1, p1, q1, rfl, rfl, rfl, h1, r1⟩ := trodAll_cons r0
  obtain ⟨rfl, rfl, rfl⟩ := trodAll_nil r1
  obtain rfl : args = #[v0, v1] := by cases args; simp_all
  have hV : DataW.TrodVars enc Tryd.prog W (fun _ => true) ["loop.example/g03105/impl.errTooGreat"] gs q := hV
  obtain ⟨sa, hsv⟩ := Er.var_of hL (by rfl)
  have hvr : ∀ {X : World}, X.var? Tryd.prog "loop.example/g03105/impl.errTooGreat" = some #[.iface 117 (.pointer (some sa))] → ∀ sp : Nat → Bool, DataW.TrodVars enc Tryd.prog X sp ["loop.example/g03105/impl.errTooGreat"] [tok enc (.iface 117 (.pointer (some sa)))] [.cell 0 0] :=
    fun x0 sp => vars_read1 enc Er.gGreat Er.tGreat Tryd.underlying60 x0 trivial sp
  obtain ⟨rfl, rfl⟩ := hV.unique (hvr hsv _)
  have k0 := h0
  have k1 := h1
  obtain ⟨P, rfl, rfl, rfl, wP⟩ := open_int Tryd.underlying3 (hval 0 3 v0 rfl rfl) h0
  have bP := bounds_i64 wP
  obtain ⟨Q, rfl, rfl, rfl, wQ⟩ := open_int Tryd.underlying3 (hval 1 3 v1 rfl rfl) h1
  have bQ := bounds_i64 wQ
  clear hA0
  simp only [List.append_nil] at hW'
  refine (law P bP.1 bP.2 Q bQ.1 bQ.2 W (errs_of hL (by rfl))).mono fun e W' ⟨he, hg⟩ => ?_
  subst he
  exact ⟨_, rfl, post_of_below (pv := [.cell 0 0]) hW' (fun _ _ _ => trodAll_cons_mk (shut_bool Tryd.underlying4 _) trodAll_mk0)
    (fun sp hs => trodAll_cons_mk (trod_keeps (t := 3) (by kernel_rfl) (by kernel_rfl) (by kernel_rfl) k0 hg (fun x hx => hW'.lt x (by simp_all)) (fun x hx => hs x (by simp_all))) (trodAll_cons_mk (trod_keeps (t := 3) (by kernel_rfl) (by kernel_rfl) (by kernel_rfl) k1 hg (fun x hx => hW'.lt x (by simp_all)) (fun x hx => hs x (by simp_all))) (trodAll_mk0)))
    (fun sp _ => hvr (Er.var_keeps hg Er.gGreat hsv) sp) (by simp) hg (ok_one (by kernel_rfl) rfl (okWide_bool_mk Tryd.underlying4 _))⟩

theorem laid_met (os : Os) : laidMetH Tryd.prog Rows.fnExactSlopeOfRow.laid ((World.doorLaid Tryd.prog 81 os).forCall (fun _ _ => 0) ⟨#[], #[.int .i64 0, .int .i64 0], []⟩).memory :=
  Low.met os #[.int .i64 0, .int .i64 0] Rows.fnExactSlopeOfRow.laid (Rows.fnExactSlopeOfRow.laid.map (·.1)) (by rfl)
set_option maxRecDepth 100000 in
theorem lifted (os : Os) (started : os.Started) (H : Type) (enc : TypeId × Value → H) (F : Stop.Interp) :
    ReturnsInHanded {} Tryd.checked os 4 .any ((OpenSpec.ofChange Rows.fnExactSlopeOfSpec).preRow enc Tryd.prog Tryd.f4 Rows.fnExactSlopeOfRow.domain false Rows.fnExactSlopeOfRow.laid) (((OpenSpec.ofChange Rows.fnExactSlopeOfSpec).at F).post enc Tryd.prog Tryd.f4 false true false false) := by
  refine returnsInHanded_of_row (C := Tryd.checked) (s := OpenSpec.ofChange Rows.fnExactSlopeOfSpec) Low.own started (by kernel_rfl) Tryd.func4
    (witness_row_atRef (enc := enc) (C := Tryd.checked) false (World.doorLaid Tryd.prog 81 os) #[.int .i64 0, .int .i64 0] (by unfold World.doorLaid; rfl) (Low.shapeB os #[.int .i64 0, .int .i64 0]) (Low.shapeR os #[.int .i64 0, .int .i64 0]) (by kernel_rfl)
      (OpenSpec.preRow_of_B rfl 8 (by kernel_rfl) (by kernel_rfl) (laid_met os))) ?_
  intro W base args ds gs before hval hW _ _ _ hL hShaped _
  exact contract H enc W base args ds gs before hval hW hL

theorem said : Rows.FnExactSlopeOfSaid :=
  OpenClaim.holds_of_cond 4 Tryd.f4 rfl rfl rfl rfl rfl rfl rfl ⟨rfl, rfl, rfl, rfl, rfl⟩ rfl rfl rfl rfl rfl (by kernel_rfl) Tryd.func4 (by kernel_rfl)
    (of_decide_eq_true (by kernel_rfl)) (by unfold Func.isWrapper; first | (rw [if_pos (by decide +kernel)]; kernel_rfl) | (rw [if_neg (by decide +kernel)]; exact ⟨rfl, rfl⟩))
    (fun os started H enc _ F => by rw [OpenClaim.pre_eq_preRow]; exact lifted os started H enc F)

theorem looks (f : FuncId) (fn : Func) (hf : Tryd.pinned.checked.prog.funcNamed "loop.example/g03105/laws.FnExactSlopeOf" = some f) (hfn : Tryd.pinned.checked.prog.funcs[f]? = some fn) :
    true = Tryd.pinned.checked.prog.looks [] ∧ ∀ (j : Nat) t, fn.params[j]? = some t → Tryd.pinned.checked.prog.wantsStandIn t = false := by
  obtain rfl : f = 4 := Option.some.inj ((show Tryd.prog.funcNamed "loop.example/g03105/laws.FnExactSlopeOf" = some 4 by kernel_rfl).symm.trans hf) |>.symm
  obtain rfl : fn = Tryd.f4 := (Option.some.inj (Tryd.func4.symm.trans hfn)).symm
  refine ⟨by kernel_rfl, fun j t ht => ?_⟩
  rw [Tryd.params4] at ht
  have hm : t ∈ [3, 3] := by simpa using Array.mem_of_getElem? ht
  have hall : ([3, 3].all fun u => !Tryd.prog.wantsStandIn u) = true := by kernel_rfl
  exact (show Tryd.prog.wantsStandIn t = false by simpa using List.all_eq_true.1 hall t hm)

theorem card : Rows.FnExactSlopeOfCardSaid :=
  Claim7.holds_tied_plain_at .later [] _ _ _ _ said (fun _ h => by cases h) (by kernel_rfl) (fun _ h => by cases h) fnExactSlopeOf_row_tie rfl ⟨rfl, rfl⟩ (by kernel_rfl) rfl looks (by kernel_rfl)
end Go.Proofs.YtehibigjdbpikaaDoor.fnExactSlopeOf
