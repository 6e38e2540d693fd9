/-
  At every argument the program's GraphText returns what the model returns, writes into no argument, and its answer owns its memory.
-/
import Derived.Test.YtpgdmbolckogcaaDoorCards
import Derived.Test.YtpgdmbolckogcaaDoorTie
import Derived.Test.YtpgdmbolckogcaaDoorBase
import Derived.Test.YtpgdmbolckogcaaDoorLow
import Derived.Test.YtpgdmbolckogcaaDoorDoorLow
import Derived.Test.YtpgdmbolckogcaaDoorSlice
import Derived.Test.YtpgdmbolckogcaaDoorIntRow
import Derived.Test.YtpgdmbolckogcaaDoorInts
import Derived.Test.YtpgdmbolckogcaaDoorStrs
import Derived.Test.YtpgdmbolckogcaaDoorOwn
import Derived.Test.YtpgdmbolckogcaaDoorGrid
import Derived.Test.YtpgdmbolckogcaaDoorGridWalk
import Derived.Test.YtpgdmbolckogcaaDoorGridWalk2
import Derived.Test.YtpgdmbolckogcaaDoorGridMark
import Derived.Test.YtpgdmbolckogcaaDoorReadRows
import Derived.Test.YtpgdmbolckogcaaDoorJoin
import Derived.Test.YtpgdmbolckogcaaDoorShelfJoin
import Derived.Test.YtpgdmbolckogcaaDoorJoinImpl
import Derived.Test.YtpgdmbolckogcaaDoorGlueText
import Derived.Test.YtpgdmbolckogcaaDoorFmt
import Derived.Test.YtpgdmbolckogcaaDoorStepRow
import Derived.Test.YtpgdmbolckogcaaDoorGraph
import Derived.Test.YtpgdmbolckogcaaDoorGraphA
import Derived.Test.YtpgdmbolckogcaaDoorGraphA2
import Derived.Test.YtpgdmbolckogcaaDoorShelfItoaS
import Derived.Test.YtpgdmbolckogcaaDoorGraphT
import Derived.Deep.DeepWitnessRowRef
import Derived.OpenShut
import Derived.Deep.DeepHandedRow
import Derived.LaidMore
namespace Go.Proofs.YtpgdmbolckogcaaDoor.fnExactGraphText
open Go.ChangeShapes Go.WideShapes Go.ChangeAt Go.RowKit Go.Sort
open Go.ChangeMaps (open_string)

set_option maxRecDepth 10000 in
set_option maxHeartbeats 2000000 in
theorem law (aG : Option Addr) (cG : Nat) (LG : List (List Int)) (w : World) (hhG : GridAt w aG LG ∧ LG.length ≤ maxLen ∧ (∀ r ∈ LG, r.length ≤ maxLen) ∧ ∀ r ∈ LG, I64s r) :
    Calls Tryd.prog 3 #[.slice aG LG.length cG] w fun e w' => e = .returned (.bool true) ∧ Below w.heap.size w w' := by
  have hZB0 := Below.refl w.heap.size w
  obtain ⟨hAG, hmG, hrG, hIG⟩ := hhG
  have hAG := Lib.hid hAG
  have hIG := Lib.hid hIG
  have hMG := Lib.hid (show LG.length ≤ 9223372036854775807 ∧ ∀ r ∈ LG, r.length ≤ 9223372036854775807 from ⟨hmG, hrG⟩); clear hrG
  unfold maxLen at hmG
  by_cases hfG : tot LG ≤ 1048576
  · skip
    have hLG := Lib.hid (show tot LG ≤ 1048576 by omega)
    have hFG := Lib.hid hfG; clear hfG
    have hSG := Lib.hid (show sumLen LG ≤ 1048576 by have := hLG.out; unfold tot at this; omega)
    have hTG : LG.length ≤ 1048576 := by have := hLG.out; unfold tot at this; omega
    have c_spec := fun (aaG : Option Addr) (ccG : Nat) (W : World) (hrG : GridAt W aaG LG) => spec_GraphText aaG ccG LG W hrG hLG.out
    have c_impl := fun (aaG : Option Addr) (ccG : Nat) (W : World) (hrG : GridAt W aaG LG) => impl_GraphText aaG ccG LG W hrG hLG.out
    generalize hV0 : (Gr.said LG) = S0 at *
    clear hV0
    have Hs := Lib.hid c_spec; have Hi := Lib.hid c_impl; clear c_spec c_impl
    go_enter Tryd.func3, Tryd.ntmps3
    go_wp2_with fail
    refine (szIntSS_fit aG cG 1048576 LG w (hAG.out.below hZB0) hMG.out (by omega) hFG.out).mono ?_
    rintro e w1 ⟨rfl, h1⟩
    have h2 := Lib.hid (h1.size)
    have hZB3 : Below w.heap.size w w1 := hZB0.trans (h1.mono hZB0.size)
    clear h1
    go_wp2_with fail
    refine (toIntSS aG cG LG w1 (hAG.out.below hZB3) hLG.out).mono ?_
    rintro e w2 ⟨rfl, h5, h6⟩
    have h7 := Lib.hid (h5); clear h5
    have h8 := Lib.hid (h6.size)
    have hZB9 : Below w.heap.size w w2 := hZB3.trans (h6.mono hZB3.size)
    clear h6
    go_wp2_with fail
    refine (Hs.out (some ⟨w1.heap.size, 0, none⟩) LG.length w2 h7.out.grid).mono ?_
    rintro e w3 ⟨rfl, h10⟩
    have h11 := Lib.hid (h10.size)
    have hZB12 : Below w.heap.size w w3 := hZB9.trans (h10.mono hZB9.size)
    have h13 := Lib.hid (h7.out.below h10); clear h7
    clear h10
    clear h13
    go_wp2_with fail
    refine (toIntSS aG cG LG w3 (hAG.out.below hZB12) hLG.out).mono ?_
    rintro e w4 ⟨rfl, h14, h15⟩
    have h16 := Lib.hid (h14); clear h14
    have h17 := Lib.hid (h15.size)
    have hZB18 : Below w.heap.size w w4 := hZB12.trans (h15.mono hZB12.size)
    clear h15
    go_wp2_with fail
    refine (Hi.out (some ⟨w3.heap.size, 0, none⟩) LG.length w4 h16.out.grid).mono ?_
    rintro e w5 ⟨rfl, h19⟩
    have h20 := Lib.hid (h19.size)
    have hZB21 : Below w.heap.size w w5 := hZB18.trans (h19.mono hZB18.size)
    have h22 := Lib.hid (h16.out.below h19); clear h16
    clear h19
    go_wp2_with fail
    refine (toIntSS aG cG LG w5 (hAG.out.below hZB21) hLG.out).mono ?_
    rintro e w6 ⟨rfl, h24, h25⟩
    have h26 := Lib.hid (h24); clear h24
    have h27 := Lib.hid (h25.size)
    have hZB28 : Below w.heap.size w w6 := hZB21.trans (h25.mono hZB21.size)
    have h29 := Lib.hid (h22.out.below h25); clear h22
    clear h25
    go_wp2_with fail
    refine (eqIntSS (some ⟨w3.heap.size, 0, none⟩) (some ⟨w5.heap.size, 0, none⟩) LG.length LG.length LG w6 h29.out.grid h26.out.grid (Nat.le_trans hLG.out (by decide))).mono ?_
    rintro e w7 ⟨rfl, h30⟩
    have h31 := Lib.hid (h30.size)
    have hZB32 : Below w.heap.size w w7 := hZB28.trans (h30.mono hZB28.size)
    have h33 := Lib.hid (h29.out.below h30); clear h29
    have h34 := Lib.hid (h26.out.below h30); clear h26
    clear h30
    clear h34
    go_wp2
    go_ret
    exact ⟨rfl, hZB32⟩
  · have hLG := Lib.hid hfG
    clear hfG
    go_enter Tryd.func3, Tryd.ntmps3
    go_wp2_with fail
    refine (szIntSS_big aG cG 1048576 LG w (hAG.out.below hZB0) hMG.out (by omega) hLG.out).mono ?_
    rintro e w1 ⟨rfl, h35⟩
    have h36 := Lib.hid (h35.size)
    have hZB37 : Below w.heap.size w w1 := hZB0.trans (h35.mono hZB0.size)
    clear h35
    go_wp2
    go_ret
    exact ⟨rfl, hZB37⟩

set_option maxRecDepth 100000 in
theorem contract (H : Type) (enc : TypeId × Value → H) (W : World) (base : Nat) (args : Array Value) (ds gs : List (DataW H)) (before : List MemPlace)
    (hval : ∀ (j : Nat) t v, Tryd.f3.params[j]? = some t → args[j]? = some v → Value.okWide Tryd.prog W .any base t v)
    (hW : DataW.Whole enc Tryd.prog Tryd.f3.params.toList Rows.fnExactGraphTextSpec.vars false W args.toList ds gs before) (hL : laidMetH Tryd.prog Rows.fnExactGraphTextRow.laid W) :
    Calls Tryd.prog 3 args W fun e W' => ∃ v, e = .returned v ∧ Rows.fnExactGraphTextSpec.post enc Tryd.prog Tryd.f3 false true false false W args v W' := by
  have hW' := hW
  obtain ⟨p, q, hA0, hV, rfl, hfz, hnd⟩ := hW
  have hA : DataW.TrodAll enc Tryd.prog W 0 (fun _ => true) true Tryd.f3.params.toList args.toList ds p := hA0
  rw [Tryd.params3] at hA hval
  obtain ⟨v0, vs0, d0, ds0, p0, q0, hargs, rfl, rfl, h0, r0⟩ := trodAll_cons hA
  obtain ⟨rfl, rfl, rfl⟩ := trodAll_nil r0
  obtain rfl : args = #[v0] := by cases args; simp_all
  obtain ⟨rfl, rfl⟩ := trodVars_none hV
  have k0 := h0
  obtain ⟨aG, cG, lG, rfl, wG⟩ := Read.rows_of (hval 0 22 v0 rfl rfl) h0
  clear hA0
  simp only [List.append_nil] at hW'
  refine (law aG cG lG W wG).mono fun e W' ⟨he, hg⟩ => ?_
  subst he
  exact ⟨_, rfl, post_of_below (pv := []) hW' (fun _ _ _ => trodAll_cons_mk (shut_bool Tryd.underlying4 _) trodAll_mk0)
    (fun sp hs => trodAll_cons_mk (trod_keeps (t := 22) (by kernel_rfl) (by kernel_rfl) (by kernel_rfl) k0 hg (fun x hx => hW'.lt x (by simp_all)) (fun x hx => hs x (by simp_all))) (trodAll_mk0))
    (fun _ _ => rfl) (by simp) hg (ok_one (by kernel_rfl) rfl (okWide_bool_mk Tryd.underlying4 _))⟩

theorem laid_met (os : Os) : laidMetH Tryd.prog Rows.fnExactGraphTextRow.laid ((World.doorLaid Tryd.prog 34 os).forCall (fun _ _ => 0) ⟨#[], #[.slice none 0 0], []⟩).memory :=
  Low.met os #[.slice none 0 0] Rows.fnExactGraphTextRow.laid (Rows.fnExactGraphTextRow.laid.map (·.1)) (by rfl)
theorem reads (os : Os) {H : Type} (enc : TypeId × Value → H) : ∃ places, DataW.whole enc Tryd.prog ((World.doorLaid Tryd.prog 34 os).forCall (fun _ _ => 0) ⟨#[], #[.slice none 0 0], []⟩).memory Tryd.f3.params.toList Rows.fnExactGraphTextSpec.vars false (#[.slice none 0 0] : Array Value).toList 8 = some ([.nil], [], places) :=
  ⟨[], by kernel_rfl⟩

set_option maxRecDepth 100000 in
theorem lifted (os : Os) (started : os.Started) (H : Type) (enc : TypeId × Value → H) (F : Stop.Interp) :
    ReturnsInHanded {} Tryd.checked os 3 .any ((OpenSpec.ofChange Rows.fnExactGraphTextSpec).preRow enc Tryd.prog Tryd.f3 Rows.fnExactGraphTextRow.domain false Rows.fnExactGraphTextRow.laid) (((OpenSpec.ofChange Rows.fnExactGraphTextSpec).at F).post enc Tryd.prog Tryd.f3 false true false false) := by
  obtain ⟨places, hx⟩ := reads os enc
  refine returnsInHanded_of_row (C := Tryd.checked) (s := OpenSpec.ofChange Rows.fnExactGraphTextSpec) Low.own started (by kernel_rfl) Tryd.func3
    (witness_row_atRef (enc := enc) (C := Tryd.checked) false (World.doorLaid Tryd.prog 34 os) #[.slice none 0 0] (by unfold World.doorLaid; rfl) (Low.shapeB os #[.slice none 0 0]) (Low.shapeR os #[.slice none 0 0]) (by kernel_rfl)
      (OpenSpec.preRow_of_cond 8 hx (by kernel_rfl) (fun k hk => by cases hk) (by kernel_rfl) (laid_met os))) ?_
  intro W base args ds gs before hval hW _ _ _ hL hShaped _
  exact contract H enc W base args ds gs before hval hW hL

theorem said : Rows.FnExactGraphTextSaid :=
  OpenClaim.holds_of_cond 3 Tryd.f3 rfl rfl rfl rfl rfl rfl rfl ⟨rfl, rfl, rfl, rfl, rfl⟩ rfl rfl rfl rfl rfl (by kernel_rfl) Tryd.func3 (by kernel_rfl)
    (of_decide_eq_true (by kernel_rfl)) (by unfold Func.isWrapper; first | (rw [if_pos (by decide +kernel)]; kernel_rfl) | (rw [if_neg (by decide +kernel)]; exact ⟨rfl, rfl⟩))
    (fun os started H enc _ F => by rw [OpenClaim.pre_eq_preRow]; exact lifted os started H enc F)

theorem looks (f : FuncId) (fn : Func) (hf : Tryd.pinned.checked.prog.funcNamed "loop.example/g03105/laws.FnExactGraphText" = some f) (hfn : Tryd.pinned.checked.prog.funcs[f]? = some fn) :
    false = Tryd.pinned.checked.prog.looks [] ∧ ∀ (j : Nat) t, fn.params[j]? = some t → Tryd.pinned.checked.prog.wantsStandIn t = false := by
  obtain rfl : f = 3 := Option.some.inj ((show Tryd.prog.funcNamed "loop.example/g03105/laws.FnExactGraphText" = some 3 by kernel_rfl).symm.trans hf) |>.symm
  obtain rfl : fn = Tryd.f3 := (Option.some.inj (Tryd.func3.symm.trans hfn)).symm
  refine ⟨by kernel_rfl, fun j t ht => ?_⟩
  rw [Tryd.params3] at ht
  have hm : t ∈ [22] := by simpa using Array.mem_of_getElem? ht
  have hall : ([22].all fun u => !Tryd.prog.wantsStandIn u) = true := by kernel_rfl
  exact (show Tryd.prog.wantsStandIn t = false by simpa using List.all_eq_true.1 hall t hm)

theorem card : Rows.FnExactGraphTextCardSaid :=
  Claim7.holds_tied_plain_at .later [] _ _ _ _ said (fun _ h => by cases h) (by kernel_rfl) (fun _ h => by cases h) fnExactGraphText_row_tie rfl ⟨rfl, rfl⟩ (by kernel_rfl) rfl looks (by kernel_rfl)
end Go.Proofs.YtpgdmbolckogcaaDoor.fnExactGraphText
