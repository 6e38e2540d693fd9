/-
  At every argument the program's IsPrimitiveClass returns what the model returns, writes into no argument, and its answer owns its memory.
-/
import Derived.Test.YtamgimdjnmcpaaaDoorCards
import Derived.Test.YtamgimdjnmcpaaaDoorTie
import Derived.Test.YtamgimdjnmcpaaaDoorBase
import Derived.Test.YtamgimdjnmcpaaaDoorLow
import Derived.Test.YtamgimdjnmcpaaaDoorDoorLow
import Derived.Test.YtamgimdjnmcpaaaDoorSlice
import Derived.Test.YtamgimdjnmcpaaaDoorIntRow
import Derived.Test.YtamgimdjnmcpaaaDoorInts
import Derived.Test.YtamgimdjnmcpaaaDoorOwn
import Derived.Test.YtamgimdjnmcpaaaDoorGrid
import Derived.Test.YtamgimdjnmcpaaaDoorGridWalk
import Derived.Test.YtamgimdjnmcpaaaDoorGridWalk2
import Derived.Test.YtamgimdjnmcpaaaDoorGridMark
import Derived.Test.YtamgimdjnmcpaaaDoorReadInts
import Derived.Test.YtamgimdjnmcpaaaDoorTw
import Derived.Test.YtamgimdjnmcpaaaDoorTwErr
import Derived.Test.YtamgimdjnmcpaaaDoorTwG
import Derived.Test.YtamgimdjnmcpaaaDoorAdTw
import Derived.Deep.DeepWitnessRowRef
import Derived.OpenShut
import Derived.Deep.DeepHandedRow
import Derived.LaidMore
import Derived.Stop.LaidErr
namespace Go.Proofs.YtamgimdjnmcpaaaDoor.fnExactIsPrimitiveClass
open Go.ChangeShapes Go.WideShapes Go.ChangeAt Go.RowKit Go.Sort
open Go.ChangeMaps (open_string)

set_option maxRecDepth 10000 in
set_option maxHeartbeats 2000000 in
theorem law (vG : Int) (hG0 : -9223372036854775808 ≤ vG) (hG1 : vG ≤ 9223372036854775807) (aX : Option Addr) (cX : Nat) (lX : List Int) (w : World) (hhX : RowAt w aX (intCells lX) ∧ lX.length ≤ maxLen ∧ I64s lX) (hsh : Errs w) :
    Calls Tryd.prog 11 #[.int .i64 vG, .slice aX lX.length cX] w fun e w' => e = .returned (.bool true) ∧ Below w.heap.size w w' := by
  have hZB0 := Below.refl w.heap.size w
  have hsh := Lib.hid hsh
  obtain ⟨hAX, hMX, hIX⟩ := hhX
  have hAX := Lib.hid hAX
  have hIX := Lib.hid hIX
  unfold maxLen at hMX
  by_cases hlX : lX.length ≤ 1048576
  · skip
    have hLX := Lib.hid hlX
    have c_spec := fun (aaX : Option Addr) (ccX : Nat) (W : World) (hrX : RowAt W aaX (intCells lX)) => spec_IsPrimitiveClass vG aaX ccX lX W hG0 hG1 hrX hLX.out
    have c_impl := fun (aaX : Option Addr) (ccX : Nat) (W : World) (hsW : Errs W) (hrX : RowAt W aaX (intCells lX)) => impl_IsPrimitiveClass vG aaX ccX lX W hsW hG0 hG1 hrX hLX.out
    generalize hV0 : (decide (Tw.Prim vG lX)) = S0 at *
    clear hV0
    have Hs := Lib.hid c_spec; have Hi := Lib.hid c_impl; clear c_spec c_impl
    go_enter Tryd.func11, Tryd.ntmps11
    have h2 := Lib.hid (show w.heap.size ≤ w.heap.size from Nat.le_refl _)
    go_wp2_with fail
    refine (toIntS aX cX lX w (hAX.out.below hZB0) hLX.out).mono ?_
    rintro e w1 ⟨rfl, h3, h4⟩
    have h5 := Lib.hid (RowIn.of_blk (lo := w.heap.size) (hi := w1.heap.size) h3 (Nat.le_refl _) h3.lt); clear h3
    have h6 := Lib.hid (h4.size)
    have hZB7 : Below w.heap.size w w1 := hZB0.trans (h4.mono hZB0.size)
    clear h4
    go_wp2_with fail
    refine (Hs.out (some ⟨w.heap.size, 0, none⟩) lX.length w1 h5.out.row).mono ?_
    rintro e w2 ⟨rfl, h8⟩
    have h9 := Lib.hid (h8.size)
    have hZB10 : Below w.heap.size w w2 := hZB7.trans (h8.mono hZB7.size)
    have h11 := Lib.hid (h5.out.below h8); clear h5
    clear h8
    clear h11
    go_wp2_with fail
    refine (toIntS aX cX lX w2 (hAX.out.below hZB10) hLX.out).mono ?_
    rintro e w3 ⟨rfl, h12, h13⟩
    have h14 := Lib.hid (RowIn.of_blk (lo := w2.heap.size) (hi := w3.heap.size) h12 (Nat.le_refl _) h12.lt); clear h12
    have h15 := Lib.hid (h13.size)
    have hZB16 : Below w.heap.size w w3 := hZB10.trans (h13.mono hZB10.size)
    clear h13
    go_wp2_with fail
    refine (Hi.out (some ⟨w2.heap.size, 0, none⟩) lX.length w3 (Errs.keeps hsh.out hZB16) h14.out.row).mono ?_
    rintro e w4 ⟨rfl, h17⟩
    have h18 := Lib.hid (h17.size)
    have hZB19 : Below w.heap.size w w4 := hZB16.trans (h17.mono hZB16.size)
    have h20 := Lib.hid (h14.out.below h17); clear h14
    clear h17
    go_wp2_with fail
    refine (toIntS aX cX lX w4 (hAX.out.below hZB19) hLX.out).mono ?_
    rintro e w5 ⟨rfl, h22, h23⟩
    have h24 := Lib.hid (RowIn.of_blk (lo := w4.heap.size) (hi := w5.heap.size) h22 (Nat.le_refl _) h22.lt); clear h22
    have h25 := Lib.hid (h23.size)
    have hZB26 : Below w.heap.size w w5 := hZB19.trans (h23.mono hZB19.size)
    have h27 := Lib.hid (h20.out.below h23); clear h20
    clear h23
    go_wp2_with fail
    refine (eqIntS (some ⟨w2.heap.size, 0, none⟩) (some ⟨w4.heap.size, 0, none⟩) lX.length lX.length lX w5 h27.out.row h24.out.row (Nat.le_trans hLX.out (by decide))).mono ?_
    rintro e w6 ⟨rfl, h28⟩
    have h29 := Lib.hid (h28.size)
    have hZB30 : Below w.heap.size w w6 := hZB26.trans (h28.mono hZB26.size)
    have h31 := Lib.hid (h27.out.below h28); clear h27
    have h32 := Lib.hid (h24.out.below h28); clear h24
    clear h28
    clear h32
    go_wp2
    go_ret
    exact ⟨rfl, hZB30⟩
  · have hbig : 1048576 < lX.length := by omega
    go_enter Tryd.func11, Tryd.ntmps11
    go_wp2
    go_ret
    exact ⟨rfl, Below.refl _ _⟩

set_option maxRecDepth 100000 in
theorem contract (H : Type) (enc : TypeId × Value → H) (W : World) (base : Nat) (args : Array Value) (ds gs : List (DataW H)) (before : List MemPlace)
    (hval : ∀ (j : Nat) t v, Tryd.f11.params[j]? = some t → args[j]? = some v → Value.okWide Tryd.prog W .any base t v)
    (hW : DataW.Whole enc Tryd.prog Tryd.f11.params.toList Rows.fnExactIsPrimitiveClassSpec.vars false W args.toList ds gs before) (hL : laidMetH Tryd.prog Rows.fnExactIsPrimitiveClassRow.laid W) :
    Calls Tryd.prog 11 args W fun e W' => ∃ v, e = .returned v ∧ Rows.fnExactIsPrimitiveClassSpec.post enc Tryd.prog Tryd.f11 false true false false W args v W' := by
  have hW' := hW
  obtain ⟨p, q, hA0, hV, rfl, hfz, hnd⟩ := hW
  have hA : DataW.TrodAll enc Tryd.prog W 0 (fun _ => true) true Tryd.f11.params.toList args.toList ds p := hA0
  rw [Tryd.params11] at hA hval
  obtain ⟨v0, vs0, d0, ds0, p0, q0, hargs, rfl, rfl, h0, r0⟩ := trodAll_cons hA
  obtain ⟨v1, vs1, d1, ds1, p1, q1, rfl, rfl, rfl, h1, r1⟩ := trodAll_cons r0
  obtain ⟨rfl, rfl, rfl⟩ := trodAll_nil r1
  obtain rfl : args = #[v0, v1] := by cases args; simp_all
  have hV : DataW.TrodVars enc Tryd.prog W (fun _ => true) ["loop.example/g03105/impl.errTooGreat"] gs q := hV
  obtain ⟨sa, hsv⟩ := Er.var_of hL (by rfl)
  have hvr : ∀ {X : World}, X.var? Tryd.prog "loop.example/g03105/impl.errTooGreat" = some #[.iface 100 (.pointer (some sa))] → ∀ sp : Nat → Bool, DataW.TrodVars enc Tryd.prog X sp ["loop.example/g03105/impl.errTooGreat"] [tok enc (.iface 100 (.pointer (some sa)))] [.cell 0 0] :=
    fun x0 sp => vars_read1 enc Er.gGreat Er.tGreat Tryd.underlying78 x0 trivial sp
  obtain ⟨rfl, rfl⟩ := hV.unique (hvr hsv _)
  have k0 := h0
  have k1 := h1
  obtain ⟨G, rfl, rfl, rfl, wG⟩ := open_int Tryd.underlying3 (hval 0 3 v0 rfl rfl) h0
  have bG := bounds_i64 wG
  obtain ⟨aX, cX, lX, rfl, wX⟩ := Read.ints_of (hval 1 24 v1 rfl rfl) h1
  clear hA0
  simp only [List.append_nil] at hW'
  refine (law G bG.1 bG.2 aX cX lX W wX (errs_of hL (by rfl))).mono fun e W' ⟨he, hg⟩ => ?_
  subst he
  exact ⟨_, rfl, post_of_below (pv := [.cell 0 0]) hW' (fun _ _ _ => trodAll_cons_mk (shut_bool Tryd.underlying4 _) trodAll_mk0)
    (fun sp hs => trodAll_cons_mk (trod_keeps (t := 3) (by kernel_rfl) (by kernel_rfl) (by kernel_rfl) k0 hg (fun x hx => hW'.lt x (by simp_all)) (fun x hx => hs x (by simp_all))) (trodAll_cons_mk (trod_keeps (t := 24) (by kernel_rfl) (by kernel_rfl) (by kernel_rfl) k1 hg (fun x hx => hW'.lt x (by simp_all)) (fun x hx => hs x (by simp_all))) (trodAll_mk0)))
    (fun sp _ => hvr (Er.var_keeps hg Er.gGreat hsv) sp) (by simp) hg (ok_one (by kernel_rfl) rfl (okWide_bool_mk Tryd.underlying4 _))⟩

theorem laid_met (os : Os) : laidMetH Tryd.prog Rows.fnExactIsPrimitiveClassRow.laid ((World.doorLaid Tryd.prog 28 os).forCall (fun _ _ => 0) ⟨#[], #[.int .i64 0, .slice none 0 0], []⟩).memory :=
  Low.met os #[.int .i64 0, .slice none 0 0] Rows.fnExactIsPrimitiveClassRow.laid (Rows.fnExactIsPrimitiveClassRow.laid.map (·.1)) (by rfl)
set_option maxRecDepth 100000 in
theorem lifted (os : Os) (started : os.Started) (H : Type) (enc : TypeId × Value → H) (F : Stop.Interp) :
    ReturnsInHanded {} Tryd.checked os 11 .any ((OpenSpec.ofChange Rows.fnExactIsPrimitiveClassSpec).preRow enc Tryd.prog Tryd.f11 Rows.fnExactIsPrimitiveClassRow.domain false Rows.fnExactIsPrimitiveClassRow.laid) (((OpenSpec.ofChange Rows.fnExactIsPrimitiveClassSpec).at F).post enc Tryd.prog Tryd.f11 false true false false) := by
  refine returnsInHanded_of_row (C := Tryd.checked) (s := OpenSpec.ofChange Rows.fnExactIsPrimitiveClassSpec) Low.own started (by kernel_rfl) Tryd.func11
    (witness_row_atRef (enc := enc) (C := Tryd.checked) false (World.doorLaid Tryd.prog 28 os) #[.int .i64 0, .slice none 0 0] (by unfold World.doorLaid; rfl) (Low.shapeB os #[.int .i64 0, .slice none 0 0]) (Low.shapeR os #[.int .i64 0, .slice none 0 0]) (by kernel_rfl)
      (OpenSpec.preRow_of_B rfl 8 (by kernel_rfl) (by kernel_rfl) (laid_met os))) ?_
  intro W base args ds gs before hval hW _ _ _ hL hShaped _
  exact contract H enc W base args ds gs before hval hW hL

theorem said : Rows.FnExactIsPrimitiveClassSaid :=
  OpenClaim.holds_of_cond 11 Tryd.f11 rfl rfl rfl rfl rfl rfl rfl ⟨rfl, rfl, rfl, rfl, rfl⟩ rfl rfl rfl rfl rfl (by kernel_rfl) Tryd.func11 (by kernel_rfl)
    (of_decide_eq_true (by kernel_rfl)) (by unfold Func.isWrapper; first | (rw [if_pos (by decide +kernel)]; kernel_rfl) | (rw [if_neg (by decide +kernel)]; exact ⟨rfl, rfl⟩))
    (fun os started H enc _ F => by rw [OpenClaim.pre_eq_preRow]; exact lifted os started H enc F)

theorem looks (f : FuncId) (fn : Func) (hf : Tryd.pinned.checked.prog.funcNamed "loop.example/g03105/laws.FnExactIsPrimitiveClass" = some f) (hfn : Tryd.pinned.checked.prog.funcs[f]? = some fn) :
    true = Tryd.pinned.checked.prog.looks [] ∧ ∀ (j : Nat) t, fn.params[j]? = some t → Tryd.pinned.checked.prog.wantsStandIn t = false := by
  obtain rfl : f = 11 := Option.some.inj ((show Tryd.prog.funcNamed "loop.example/g03105/laws.FnExactIsPrimitiveClass" = some 11 by kernel_rfl).symm.trans hf) |>.symm
  obtain rfl : fn = Tryd.f11 := (Option.some.inj (Tryd.func11.symm.trans hfn)).symm
  refine ⟨by kernel_rfl, fun j t ht => ?_⟩
  rw [Tryd.params11] at ht
  have hm : t ∈ [3, 24] := by simpa using Array.mem_of_getElem? ht
  have hall : ([3, 24].all fun u => !Tryd.prog.wantsStandIn u) = true := by kernel_rfl
  exact (show Tryd.prog.wantsStandIn t = false by simpa using List.all_eq_true.1 hall t hm)

theorem card : Rows.FnExactIsPrimitiveClassCardSaid :=
  Claim7.holds_tied_plain_at .later [] _ _ _ _ said (fun _ h => by cases h) (by kernel_rfl) (fun _ h => by cases h) fnExactIsPrimitiveClass_row_tie rfl ⟨rfl, rfl⟩ (by kernel_rfl) rfl looks (by kernel_rfl)
end Go.Proofs.YtamgimdjnmcpaaaDoor.fnExactIsPrimitiveClass
