/-
  At every argument the program's ParseSlope returns what the model returns, writes into no argument, and its answer owns its memory.
-/
import Derived.Test.YtehibigjdbpikaaDoorCards
import Derived.Test.YtehibigjdbpikaaDoorTie
import Derived.Test.YtehibigjdbpikaaDoorBase
import Derived.Test.YtehibigjdbpikaaDoorLow
import Derived.Test.YtehibigjdbpikaaDoorDoorLow
import Derived.Test.YtehibigjdbpikaaDoorSlice
import Derived.Test.YtehibigjdbpikaaDoorIntRow
import Derived.Test.YtehibigjdbpikaaDoorInts
import Derived.Test.YtehibigjdbpikaaDoorOwn
import Derived.Test.YtehibigjdbpikaaDoorTw
import Derived.Test.YtehibigjdbpikaaDoorTwErr
import Derived.Test.YtehibigjdbpikaaDoorSl
import Derived.Test.YtehibigjdbpikaaDoorSlK
import Derived.Test.YtehibigjdbpikaaDoorSlA
import Derived.Test.YtehibigjdbpikaaDoorSlB
import Derived.Test.YtehibigjdbpikaaDoorSlS
import Derived.Test.YtehibigjdbpikaaDoorStrs
import Derived.Test.YtehibigjdbpikaaDoorSplit
import Derived.Test.YtehibigjdbpikaaDoorFmt
import Derived.Test.YtehibigjdbpikaaDoorNum
import Derived.Test.YtehibigjdbpikaaDoorRead
import Derived.Test.YtehibigjdbpikaaDoorParse
import Derived.Test.YtehibigjdbpikaaDoorSlPs
import Derived.Deep.DeepWitnessRowRef
import Derived.OpenShut
import Derived.Deep.DeepHandedRow
import Derived.LaidMore
import Derived.Stop.LaidErr
import Derived.Deep.RegionHeld3
import Derived.Deep.RegionWith
import Derived.Deep.CutRange
namespace Go.Proofs.YtehibigjdbpikaaDoor.fnExactParseSlope
open Go.ChangeShapes Go.WideShapes Go.ChangeAt Go.RowKit Go.Sort
open Go.ChangeMaps (open_string)
set_option linter.unusedVariables false
set_option linter.unusedSimpArgs false

set_option maxRecDepth 10000 in
set_option maxHeartbeats 2000000 in
theorem law (vText : ByteArray) (hText : vText.size ≤ maxLen) (w : World) (hE : Errs w) (hL : Laid w) (hsh : w.ShapedOpen Tryd.prog) :
    Calls Tryd.prog 6 #[.string vText] w fun e w' => e = .returned (.bool true) ∧ Below w.heap.size w w' := by
  unfold maxLen at hText
  by_cases hlT : vText.size ≤ 1048576
  · skip
    have hs := fun W => spec_ParseSlope vText W hlT
    have hi := fun W (hb : Below w.heap.size w W) => impl_ParseSlope vText W hlT (hE.keeps hb) (hL.keeps hb) (shaped_below hsh hb)
    generalize Sl.parsed vText = s at *
    generalize decide (Sl.ParseOk vText) = b at *
    have Hs := Lib.hid hs; have Hi := Lib.hid hi
    clear hs hi hE hL hsh
    go_enter Tryd.func6, Tryd.ntmps6
    go_wp2_with fail
    refine (Hs.out _).mono ?_
    rintro e w1 ⟨rfl, hb⟩
    have Hl := Lib.hid (hb.alloc hb.size (.cells #[.int .i64 s.1, .int .i64 s.2] 25))
    clear hb
    go_wp2_with fail
    refine (Hi.out _ Hl.out).mono ?_
    rintro e w2 ⟨rfl, hb⟩
    have hK := (Blk.new w1 25 #[.int .i64 s.1, .int .i64 s.2]).below hb (by simp)
    have hne : w1.heap.size ≠ w2.heap.size := Nat.ne_of_lt hK.lt
    obtain ⟨_, _, _, _⟩ := hK.four
    obtain ⟨_, _, _, _⟩ := (hK.alloc (.cells #[.int .i64 s.1, .int .i64 s.2] 25)).four
    have Hl := Lib.hid (Hl.out.trans (hb.mono Hl.out.size))
    clear hb hK
    go_wp2_with fail
    refine (eqSlope s.1 s.2 _).mono ?_
    rintro e w3 ⟨rfl, hb⟩
    have Hl := Lib.hid ((Hl.out.alloc Hl.out.size (.cells #[.int .i64 s.1, .int .i64 s.2] 25)).trans (hb.mono (Hl.out.alloc Hl.out.size (.cells #[.int .i64 s.1, .int .i64 s.2] 25)).size))
    clear hb
    go_wp2
    go_ret
    exact ⟨rfl, Hl.out⟩
  · have hgt : 1048576 < vText.size := by omega
    clear hE hL hsh hlT
    go_enter Tryd.func6, Tryd.ntmps6
    go_wp2
    go_ret
    exact ⟨rfl, Below.refl _ _⟩

set_option maxRecDepth 100000 in
theorem contract (H : Type) (enc : TypeId × Value → H) (W : World) (base : Nat) (args : Array Value) (ds gs : List (DataW H)) (before : List MemPlace)
    (hval : ∀ (j : Nat) t v, Tryd.f6.params[j]? = some t → args[j]? = some v → Value.okWide Tryd.prog W .any base t v)
    (hW : DataW.Whole enc Tryd.prog Tryd.f6.params.toList Rows.fnExactParseSlopeSpec.vars false W args.toList ds gs before) (hL : laidMetH Tryd.prog Rows.fnExactParseSlopeRow.laid W) (hShaped : W.ShapedOpen Tryd.prog) :
    Calls Tryd.prog 6 args W fun e W' => ∃ v, e = .returned v ∧ Rows.fnExactParseSlopeSpec.post enc Tryd.prog Tryd.f6 false true false false W args v W' := by
  have hW' := hW
  obtain ⟨p, q, hA0, hV, rfl, hfz, hnd⟩ := hW
  have hA : DataW.TrodAll enc Tryd.prog W 0 (fun _ => true) true Tryd.f6.params.toList args.toList ds p := hA0
  rw [Tryd.params6] at hA hval
  obtain ⟨v0, vs0, d0, ds0, p0, q0, hargs, rfl, rfl, h0, r0⟩ := trodAll_cons hA
  obtain ⟨rfl, rfl, rfl⟩ := trodAll_nil r0
  obtain rfl : args = #[v0] := by cases args; simp_all
  have hV : DataW.TrodVars enc Tryd.prog W (fun _ => true) ["loop.example/g03105/impl.errTooGreat"] gs q := hV
  obtain ⟨sa, hsv⟩ := Er.var_of hL (by rfl)
  have hvr : ∀ {X : World}, X.var? Tryd.prog "loop.example/g03105/impl.errTooGreat" = some #[.iface 117 (.pointer (some sa))] → ∀ sp : Nat → Bool, DataW.TrodVars enc Tryd.prog X sp ["loop.example/g03105/impl.errTooGreat"] [tok enc (.iface 117 (.pointer (some sa)))] [.cell 0 0] :=
    fun x0 sp => vars_read1 enc Er.gGreat Er.tGreat Tryd.underlying60 x0 trivial sp
  obtain ⟨rfl, rfl⟩ := hV.unique (hvr hsv _)
  have k0 := h0
  obtain ⟨Text, rfl, rfl, rfl, wText⟩ := open_string Tryd.underlying9 (hval 0 9 v0 rfl rfl) h0
  clear hA0
  simp only [List.append_nil] at hW'
  refine (law Text wText W (errs_of hL (by rfl)) (laid_of hL (by rfl) (by rfl) (by rfl)) (hShaped)).mono fun e W' ⟨he, hg⟩ => ?_
  subst he
  exact ⟨_, rfl, post_of_below (pv := [.cell 0 0]) hW' (fun _ _ _ => trodAll_cons_mk (shut_bool Tryd.underlying4 _) trodAll_mk0)
    (fun sp hs => trodAll_cons_mk (trod_keeps (t := 9) (by kernel_rfl) (by kernel_rfl) (by kernel_rfl) k0 hg (fun x hx => hW'.lt x (by simp_all)) (fun x hx => hs x (by simp_all))) (trodAll_mk0))
    (fun sp _ => hvr (Er.var_keeps hg Er.gGreat hsv) sp) (by simp) hg (ok_one (by kernel_rfl) rfl (okWide_bool_mk Tryd.underlying4 _))⟩

theorem laid_met (os : Os) : laidMetH Tryd.prog Rows.fnExactParseSlopeRow.laid ((World.doorLaid Tryd.prog 81 os).forCall (fun _ _ => 0) ⟨#[], #[.string ByteArray.empty], []⟩).memory :=
  Low.met os #[.string ByteArray.empty] Rows.fnExactParseSlopeRow.laid (Rows.fnExactParseSlopeRow.laid.map (·.1)) (by rfl)
set_option maxRecDepth 100000 in
theorem lifted (os : Os) (started : os.Started) (H : Type) (enc : TypeId × Value → H) (F : Stop.Interp) :
    ReturnsInHanded {} Tryd.checked os 6 .any ((OpenSpec.ofChange Rows.fnExactParseSlopeSpec).preRow enc Tryd.prog Tryd.f6 Rows.fnExactParseSlopeRow.domain false Rows.fnExactParseSlopeRow.laid) (((OpenSpec.ofChange Rows.fnExactParseSlopeSpec).at F).post enc Tryd.prog Tryd.f6 false true false false) := by
  refine returnsInHanded_of_row (C := Tryd.checked) (s := OpenSpec.ofChange Rows.fnExactParseSlopeSpec) Low.own started (by kernel_rfl) Tryd.func6
    (witness_row_atRef (enc := enc) (C := Tryd.checked) false (World.doorLaid Tryd.prog 81 os) #[.string ByteArray.empty] (by unfold World.doorLaid; rfl) (Low.shapeB os #[.string ByteArray.empty]) (Low.shapeR os #[.string ByteArray.empty]) (by kernel_rfl)
      (OpenSpec.preRow_of_B rfl 8 (by kernel_rfl) (by kernel_rfl) (laid_met os))) ?_
  intro W base args ds gs before hval hW _ _ _ hL hShaped _
  exact contract H enc W base args ds gs before hval hW hL hShaped

theorem said : Rows.FnExactParseSlopeSaid :=
  OpenClaim.holds_of_cond 6 Tryd.f6 rfl rfl rfl rfl rfl rfl rfl ⟨rfl, rfl, rfl, rfl, rfl⟩ rfl rfl rfl rfl rfl (by kernel_rfl) Tryd.func6 (by kernel_rfl)
    (of_decide_eq_true (by kernel_rfl)) (by unfold Func.isWrapper; first | (rw [if_pos (by decide +kernel)]; kernel_rfl) | (rw [if_neg (by decide +kernel)]; exact ⟨rfl, rfl⟩))
    (fun os started H enc _ F => by rw [OpenClaim.pre_eq_preRow]; exact lifted os started H enc F)

theorem looks (f : FuncId) (fn : Func) (hf : Tryd.pinned.checked.prog.funcNamed "loop.example/g03105/laws.FnExactParseSlope" = some f) (hfn : Tryd.pinned.checked.prog.funcs[f]? = some fn) :
    true = Tryd.pinned.checked.prog.looks [] ∧ ∀ (j : Nat) t, fn.params[j]? = some t → Tryd.pinned.checked.prog.wantsStandIn t = false := by
  obtain rfl : f = 6 := Option.some.inj ((show Tryd.prog.funcNamed "loop.example/g03105/laws.FnExactParseSlope" = some 6 by kernel_rfl).symm.trans hf) |>.symm
  obtain rfl : fn = Tryd.f6 := (Option.some.inj (Tryd.func6.symm.trans hfn)).symm
  refine ⟨by kernel_rfl, fun j t ht => ?_⟩
  rw [Tryd.params6] at ht
  have hm : t ∈ [9] := by simpa using Array.mem_of_getElem? ht
  have hall : ([9].all fun u => !Tryd.prog.wantsStandIn u) = true := by kernel_rfl
  exact (show Tryd.prog.wantsStandIn t = false by simpa using List.all_eq_true.1 hall t hm)

theorem card : Rows.FnExactParseSlopeCardSaid :=
  Claim7.holds_tied_plain_at .later [] _ _ _ _ said (fun _ h => by cases h) (by kernel_rfl) (fun _ h => by cases h) fnExactParseSlope_row_tie rfl ⟨rfl, rfl⟩ (by kernel_rfl) rfl looks (by kernel_rfl)
end Go.Proofs.YtehibigjdbpikaaDoor.fnExactParseSlope
