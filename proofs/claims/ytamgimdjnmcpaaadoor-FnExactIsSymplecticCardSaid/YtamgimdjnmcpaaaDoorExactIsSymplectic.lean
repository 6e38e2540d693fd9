/-
  At every argument the program's IsSymplectic returns what the model returns, writes into no argument, and its answer owns its memory.
-/
import Derived.Test.YtamgimdjnmcpaaaDoorCards
import Derived.Test.YtamgimdjnmcpaaaDoorTie
import Derived.Test.YtamgimdjnmcpaaaDoorBase
import Derived.Test.YtamgimdjnmcpaaaDoorLow
import Derived.Test.YtamgimdjnmcpaaaDoorDoorLow
import Derived.Test.YtamgimdjnmcpaaaDoorSlice
import Derived.Test.YtamgimdjnmcpaaaDoorIntRow
import Derived.Test.YtamgimdjnmcpaaaDoorInts
import Derived.Test.YtamgimdjnmcpaaaDoorOwn
import Derived.Test.YtamgimdjnmcpaaaDoorGrid
import Derived.Test.YtamgimdjnmcpaaaDoorGridWalk
import Derived.Test.YtamgimdjnmcpaaaDoorGridWalk2
import Derived.Test.YtamgimdjnmcpaaaDoorGridMark
import Derived.Test.YtamgimdjnmcpaaaDoorReadInts
import Derived.Test.YtamgimdjnmcpaaaDoorTw
import Derived.Test.YtamgimdjnmcpaaaDoorTwErr
import Derived.Test.YtamgimdjnmcpaaaDoorAdTwSym
import Derived.Deep.DeepWitnessRowRef
import Derived.OpenShut
import Derived.Deep.DeepHandedRow
import Derived.LaidMore
import Derived.Stop.LaidErr
namespace Go.Proofs.YtamgimdjnmcpaaaDoor.fnExactIsSymplectic
open Go.ChangeShapes Go.WideShapes Go.ChangeAt Go.RowKit Go.Sort
open Go.ChangeMaps (open_string)

set_option maxRecDepth 10000 in
set_option maxHeartbeats 2000000 in
theorem law (vG : Int) (hG0 : -9223372036854775808 ≤ vG) (hG1 : vG ≤ 9223372036854775807) (aT : Option Addr) (cT : Nat) (LT : List (List Int)) (w : World) (hhT : GridAt w aT LT ∧ LT.length ≤ maxLen ∧ (∀ r ∈ LT, r.length ≤ maxLen) ∧ ∀ r ∈ LT, I64s r) (hsh : Errs w) :
    Calls Tryd.prog 10 #[.int .i64 vG, .slice aT LT.length cT] w fun e w' => e = .returned (.bool true) ∧ Below w.heap.size w w' := by
  have hZB0 := Below.refl w.heap.size w
  have hsh := Lib.hid hsh
  obtain ⟨hAT, hmT, hrT, hIT⟩ := hhT
  have hAT := Lib.hid hAT
  have hIT := Lib.hid hIT
  have hMT := Lib.hid (show LT.length ≤ 9223372036854775807 ∧ ∀ r ∈ LT, r.length ≤ 9223372036854775807 from ⟨hmT, hrT⟩); clear hrT
  unfold maxLen at hmT
  by_cases hfT : tot LT ≤ 1048576
  · skip
    have hLT := Lib.hid (show tot LT ≤ 1048576 by omega)
    have hFT := Lib.hid hfT; clear hfT
    have hST := Lib.hid (show sumLen LT ≤ 1048576 by have := hLT.out; unfold tot at this; omega)
    have hTT : LT.length ≤ 1048576 := by have := hLT.out; unfold tot at this; omega
    have c_spec := fun (aaT : Option Addr) (ccT : Nat) (W : World) (hrT : GridAt W aaT LT) => spec_IsSymplectic vG aaT ccT LT W hG0 hG1 hrT hLT.out
    have c_impl := fun (aaT : Option Addr) (ccT : Nat) (W : World) (hsW : Errs W) (hrT : GridAt W aaT LT) => impl_IsSymplectic vG aaT ccT LT W hsW hG0 hG1 hrT hLT.out
    generalize hV0 : (decide (Tw.IsSym vG LT)) = S0 at *
    clear hV0
    have Hs := Lib.hid c_spec; have Hi := Lib.hid c_impl; clear c_spec c_impl
    go_enter Tryd.func10, Tryd.ntmps10
    go_wp2_with fail
    refine (szIntSS_fit aT cT 1048576 LT w (hAT.out.below hZB0) hMT.out (by omega) hFT.out).mono ?_
    rintro e w1 ⟨rfl, h1⟩
    have h2 := Lib.hid (h1.size)
    have hZB3 : Below w.heap.size w w1 := hZB0.trans (h1.mono hZB0.size)
    clear h1
    go_wp2_with fail
    refine (toIntSS aT cT LT w1 (hAT.out.below hZB3) hLT.out).mono ?_
    rintro e w2 ⟨rfl, h5, h6⟩
    have h7 := Lib.hid (h5); clear h5
    have h8 := Lib.hid (h6.size)
    have hZB9 : Below w.heap.size w w2 := hZB3.trans (h6.mono hZB3.size)
    clear h6
    go_wp2_with fail
    refine (Hs.out (some ⟨w1.heap.size, 0, none⟩) LT.length w2 h7.out.grid).mono ?_
    rintro e w3 ⟨rfl, h10⟩
    have h11 := Lib.hid (h10.size)
    have hZB12 : Below w.heap.size w w3 := hZB9.trans (h10.mono hZB9.size)
    have h13 := Lib.hid (h7.out.below h10); clear h7
    clear h10
    clear h13
    go_wp2_with fail
    refine (toIntSS aT cT LT w3 (hAT.out.below hZB12) hLT.out).mono ?_
    rintro e w4 ⟨rfl, h14, h15⟩
    have h16 := Lib.hid (h14); clear h14
    have h17 := Lib.hid (h15.size)
    have hZB18 : Below w.heap.size w w4 := hZB12.trans (h15.mono hZB12.size)
    clear h15
    go_wp2_with fail
    refine (Hi.out (some ⟨w3.heap.size, 0, none⟩) LT.length w4 (Errs.keeps hsh.out hZB18) h16.out.grid).mono ?_
    rintro e w5 ⟨rfl, h19⟩
    have h20 := Lib.hid (h19.size)
    have hZB21 : Below w.heap.size w w5 := hZB18.trans (h19.mono hZB18.size)
    have h22 := Lib.hid (h16.out.below h19); clear h16
    clear h19
    go_wp2_with fail
    refine (toIntSS aT cT LT w5 (hAT.out.below hZB21) hLT.out).mono ?_
    rintro e w6 ⟨rfl, h24, h25⟩
    have h26 := Lib.hid (h24); clear h24
    have h27 := Lib.hid (h25.size)
    have hZB28 : Below w.heap.size w w6 := hZB21.trans (h25.mono hZB21.size)
    have h29 := Lib.hid (h22.out.below h25); clear h22
    clear h25
    go_wp2_with fail
    refine (eqIntSS (some ⟨w3.heap.size, 0, none⟩) (some ⟨w5.heap.size, 0, none⟩) LT.length LT.length LT w6 h29.out.grid h26.out.grid (Nat.le_trans hLT.out (by decide))).mono ?_
    rintro e w7 ⟨rfl, h30⟩
    have h31 := Lib.hid (h30.size)
    have hZB32 : Below w.heap.size w w7 := hZB28.trans (h30.mono hZB28.size)
    have h33 := Lib.hid (h29.out.below h30); clear h29
    have h34 := Lib.hid (h26.out.below h30); clear h26
    clear h30
    clear h34
    go_wp2
    go_ret
    exact ⟨rfl, hZB32⟩
  · have hLT := Lib.hid hfT
    clear hfT
    go_enter Tryd.func10, Tryd.ntmps10
    go_wp2_with fail
    refine (szIntSS_big aT cT 1048576 LT w (hAT.out.below hZB0) hMT.out (by omega) hLT.out).mono ?_
    rintro e w1 ⟨rfl, h35⟩
    have h36 := Lib.hid (h35.size)
    have hZB37 : Below w.heap.size w w1 := hZB0.trans (h35.mono hZB0.size)
    clear h35
    go_wp2
    go_ret
    exact ⟨rfl, hZB37⟩

set_option maxRecDepth 100000 in
theorem contract (H : Type) (enc : TypeId × Value → H) (W : World) (base : Nat) (args : Array Value) (ds gs : List (DataW H)) (before : List MemPlace)
    (hval : ∀ (j : Nat) t v, Tryd.f10.params[j]? = some t → args[j]? = some v → Value.okWide Tryd.prog W .any base t v)
    (hW : DataW.Whole enc Tryd.prog Tryd.f10.params.toList Rows.fnExactIsSymplecticSpec.vars false W args.toList ds gs before) (hL : laidMetH Tryd.prog Rows.fnExactIsSymplecticRow.laid W) :
    Calls Tryd.prog 10 args W fun e W' => ∃ v, e = .returned v ∧ Rows.fnExactIsSymplecticSpec.post enc Tryd.prog Tryd.f10 false true false false W args v W' := by
  have hW' := hW
  obtain ⟨p, q, hA0, hV, rfl, hfz, hnd⟩ := hW
  have hA : DataW.TrodAll enc Tryd.prog W 0 (fun _ => true) true Tryd.f10.params.toList args.toList ds p := hA0
  rw [Tryd.params10] at hA hval
  obtain ⟨v0, vs0, d0, ds0, p0, q0, hargs, rfl, rfl, h0, r0⟩ := trodAll_cons hA
  obtain ⟨v1, vs1, d1, ds1, p1, q1, rfl, rfl, rfl, h1, r1⟩ := trodAll_cons r0
  obtain ⟨rfl, rfl, rfl⟩ := trodAll_nil r1
  obtain rfl : args = #[v0, v1] := by cases args; simp_all
  have hV : DataW.TrodVars enc Tryd.prog W (fun _ => true) ["loop.example/g03105/impl.errTooGreat"] gs q := hV
  obtain ⟨sa, hsv⟩ := Er.var_of hL (by rfl)
  have hvr : ∀ {X : World}, X.var? Tryd.prog "loop.example/g03105/impl.errTooGreat" = some #[.iface 100 (.pointer (some sa))] → ∀ sp : Nat → Bool, DataW.TrodVars enc Tryd.prog X sp ["loop.example/g03105/impl.errTooGreat"] [tok enc (.iface 100 (.pointer (some sa)))] [.cell 0 0] :=
    fun x0 sp => vars_read1 enc Er.gGreat Er.tGreat Tryd.underlying78 x0 trivial sp
  obtain ⟨rfl, rfl⟩ := hV.unique (hvr hsv _)
  have k0 := h0
  have k1 := h1
  obtain ⟨G, rfl, rfl, rfl, wG⟩ := open_int Tryd.underlying3 (hval 0 3 v0 rfl rfl) h0
  have bG := bounds_i64 wG
  obtain ⟨aT, cT, lT, rfl, wT⟩ := Read.rows_of (hval 1 31 v1 rfl rfl) h1
  clear hA0
  simp only [List.append_nil] at hW'
  refine (law G bG.1 bG.2 aT cT lT W wT (errs_of hL (by rfl))).mono fun e W' ⟨he, hg⟩ => ?_
  subst he
  exact ⟨_, rfl, post_of_below (pv := [.cell 0 0]) hW' (fun _ _ _ => trodAll_cons_mk (shut_bool Tryd.underlying4 _) trodAll_mk0)
    (fun sp hs => trodAll_cons_mk (trod_keeps (t := 3) (by kernel_rfl) (by kernel_rfl) (by kernel_rfl) k0 hg (fun x hx => hW'.lt x (by simp_all)) (fun x hx => hs x (by simp_all))) (trodAll_cons_mk (trod_keeps (t := 31) (by kernel_rfl) (by kernel_rfl) (by kernel_rfl) k1 hg (fun x hx => hW'.lt x (by simp_all)) (fun x hx => hs x (by simp_all))) (trodAll_mk0)))
    (fun sp _ => hvr (Er.var_keeps hg Er.gGreat hsv) sp) (by simp) hg (ok_one (by kernel_rfl) rfl (okWide_bool_mk Tryd.underlying4 _))⟩

theorem laid_met (os : Os) : laidMetH Tryd.prog Rows.fnExactIsSymplecticRow.laid ((World.doorLaid Tryd.prog 28 os).forCall (fun _ _ => 0) ⟨#[], #[.int .i64 0, .slice none 0 0], []⟩).memory :=
  Low.met os #[.int .i64 0, .slice none 0 0] Rows.fnExactIsSymplecticRow.laid (Rows.fnExactIsSymplecticRow.laid.map (·.1)) (by rfl)
set_option maxRecDepth 100000 in
theorem lifted (os : Os) (started : os.Started) (H : Type) (enc : TypeId × Value → H) (F : Stop.Interp) :
    ReturnsInHanded {} Tryd.checked os 10 .any ((OpenSpec.ofChange Rows.fnExactIsSymplecticSpec).preRow enc Tryd.prog Tryd.f10 Rows.fnExactIsSymplecticRow.domain false Rows.fnExactIsSymplecticRow.laid) (((OpenSpec.ofChange Rows.fnExactIsSymplecticSpec).at F).post enc Tryd.prog Tryd.f10 false true false false) := by
  refine returnsInHanded_of_row (C := Tryd.checked) (s := OpenSpec.ofChange Rows.fnExactIsSymplecticSpec) Low.own started (by kernel_rfl) Tryd.func10
    (witness_row_atRef (enc := enc) (C := Tryd.checked) false (World.doorLaid Tryd.prog 28 os) #[.int .i64 0, .slice none 0 0] (by unfold World.doorLaid; rfl) (Low.shapeB os #[.int .i64 0, .slice none 0 0]) (Low.shapeR os #[.int .i64 0, .slice none 0 0]) (by kernel_rfl)
      (OpenSpec.preRow_of_B rfl 8 (by kernel_rfl) (by kernel_rfl) (laid_met os))) ?_
  intro W base args ds gs before hval hW _ _ _ hL hShaped _
  exact contract H enc W base args ds gs before hval hW hL

theorem said : Rows.FnExactIsSymplecticSaid :=
  OpenClaim.holds_of_cond 10 Tryd.f10 rfl rfl rfl rfl rfl rfl rfl ⟨rfl, rfl, rfl, rfl, rfl⟩ rfl rfl rfl rfl rfl (by kernel_rfl) Tryd.func10 (by kernel_rfl)
    (of_decide_eq_true (by kernel_rfl)) (by unfold Func.isWrapper; first | (rw [if_pos (by decide +kernel)]; kernel_rfl) | (rw [if_neg (by decide +kernel)]; exact ⟨rfl, rfl⟩))
    (fun os started H enc _ F => by rw [OpenClaim.pre_eq_preRow]; exact lifted os started H enc F)

theorem looks (f : FuncId) (fn : Func) (hf : Tryd.pinned.checked.prog.funcNamed "loop.example/g03105/laws.FnExactIsSymplectic" = some f) (hfn : Tryd.pinned.checked.prog.funcs[f]? = some fn) :
    true = Tryd.pinned.checked.prog.looks [] ∧ ∀ (j : Nat) t, fn.params[j]? = some t → Tryd.pinned.checked.prog.wantsStandIn t = false := by
  obtain rfl : f = 10 := Option.some.inj ((show Tryd.prog.funcNamed "loop.example/g03105/laws.FnExactIsSymplectic" = some 10 by kernel_rfl).symm.trans hf) |>.symm
  obtain rfl : fn = Tryd.f10 := (Option.some.inj (Tryd.func10.symm.trans hfn)).symm
  refine ⟨by kernel_rfl, fun j t ht => ?_⟩
  rw [Tryd.params10] at ht
  have hm : t ∈ [3, 31] := by simpa using Array.mem_of_getElem? ht
  have hall : ([3, 31].all fun u => !Tryd.prog.wantsStandIn u) = true := by kernel_rfl
  exact (show Tryd.prog.wantsStandIn t = false by simpa using List.all_eq_true.1 hall t hm)

theorem card : Rows.FnExactIsSymplecticCardSaid :=
  Claim7.holds_tied_plain_at .later [] _ _ _ _ said (fun _ h => by cases h) (by kernel_rfl) (fun _ h => by cases h) fnExactIsSymplectic_row_tie rfl ⟨rfl, rfl⟩ (by kernel_rfl) rfl looks (by kernel_rfl)
end Go.Proofs.YtamgimdjnmcpaaaDoor.fnExactIsSymplectic
