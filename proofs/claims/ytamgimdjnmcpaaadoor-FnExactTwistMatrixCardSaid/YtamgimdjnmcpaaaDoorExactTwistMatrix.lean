/-
  At every argument the program's TwistMatrix returns what the model returns, writes into no argument, and its answer owns its memory.
-/
import Derived.Test.YtamgimdjnmcpaaaDoorCards
import Derived.Test.YtamgimdjnmcpaaaDoorTie
import Derived.Test.YtamgimdjnmcpaaaDoorBase
import Derived.Test.YtamgimdjnmcpaaaDoorLow
import Derived.Test.YtamgimdjnmcpaaaDoorDoorLow
import Derived.Test.YtamgimdjnmcpaaaDoorSlice
import Derived.Test.YtamgimdjnmcpaaaDoorIntRow
import Derived.Test.YtamgimdjnmcpaaaDoorInts
import Derived.Test.YtamgimdjnmcpaaaDoorOwn
import Derived.Test.YtamgimdjnmcpaaaDoorGrid
import Derived.Test.YtamgimdjnmcpaaaDoorGridWalk
import Derived.Test.YtamgimdjnmcpaaaDoorGridWalk2
import Derived.Test.YtamgimdjnmcpaaaDoorGridMark
import Derived.Test.YtamgimdjnmcpaaaDoorReadInts
import Derived.Test.YtamgimdjnmcpaaaDoorTw
import Derived.Test.YtamgimdjnmcpaaaDoorTwErr
import Derived.Test.YtamgimdjnmcpaaaDoorTwG
import Derived.Test.YtamgimdjnmcpaaaDoorAdTw
import Derived.Deep.DeepWitnessRowRef
import Derived.OpenShut
import Derived.Deep.DeepHandedRow
import Derived.LaidMore
import Derived.Stop.LaidErr
namespace Go.Proofs.YtamgimdjnmcpaaaDoor.fnExactTwistMatrix
open Go.ChangeShapes Go.WideShapes Go.ChangeAt Go.RowKit Go.Sort
open Go.ChangeMaps (open_string)

set_option maxRecDepth 10000 in
set_option maxHeartbeats 2000000 in
theorem law (vG : Int) (hG0 : -9223372036854775808 ≤ vG) (hG1 : vG ≤ 9223372036854775807) (aC : Option Addr) (cC : Nat) (lC : List Int) (w : World) (hhC : RowAt w aC (intCells lC) ∧ lC.length ≤ maxLen ∧ I64s lC) (hsh : Errs w) :
    Calls Tryd.prog 7 #[.int .i64 vG, .slice aC lC.length cC] w fun e w' => e = .returned (.bool true) ∧ Below w.heap.size w w' := by
  have hZB0 := Below.refl w.heap.size w
  have hsh := Lib.hid hsh
  obtain ⟨hAC, hMC, hIC⟩ := hhC
  have hAC := Lib.hid hAC
  have hIC := Lib.hid hIC
  unfold maxLen at hMC
  by_cases hlC : lC.length ≤ 1048576
  · skip
    have hLC := Lib.hid hlC
    have hZN0 := Lib.hid ((Tw.mat_few vG lC).tot : tot (Tw.mat vG lC) ≤ 1000000)
    have c_spec := fun (aaC : Option Addr) (ccC : Nat) (W : World) (hrC : RowAt W aaC (intCells lC)) => spec_TwistMatrix vG aaC ccC lC W hG0 hG1 hrC hLC.out
    have c_impl := fun (aaC : Option Addr) (ccC : Nat) (W : World) (hsW : Errs W) (hrC : RowAt W aaC (intCells lC)) => impl_TwistMatrix vG aaC ccC lC W hsW hG0 hG1 hrC hLC.out
    generalize hV0 : Tw.mat vG lC = R0 at *
    clear hV0
    generalize hV1 : (decide (Tw.MatOk vG lC)) = S1 at *
    clear hV1
    have hQ0 := Lib.hid (show sumLen R0 ≤ 1000000 by have := hZN0.out; unfold tot at this; omega)
    have Hs := Lib.hid c_spec; have Hi := Lib.hid c_impl; clear c_spec c_impl
    go_enter Tryd.func7, Tryd.ntmps7
    have h2 := Lib.hid (show w.heap.size ≤ w.heap.size from Nat.le_refl _)
    go_wp2_with fail
    refine (toIntS aC cC lC w (hAC.out.below hZB0) hLC.out).mono ?_
    rintro e w1 ⟨rfl, h3, h4⟩
    have h5 := Lib.hid (RowIn.of_blk (lo := w.heap.size) (hi := w1.heap.size) h3 (Nat.le_refl _) h3.lt); clear h3
    have h6 := Lib.hid (h4.size)
    have hZB7 : Below w.heap.size w w1 := hZB0.trans (h4.mono hZB0.size)
    clear h4
    go_wp2_with fail
    refine (Hs.out (some ⟨w.heap.size, 0, none⟩) lC.length w1 h5.out.row).mono ?_
    rintro e w2 ⟨ra9, rc10, rfl, _, _, hf11, h8⟩
    have h12 := Lib.hid (hf11.grid); clear hf11
    have h13 := Lib.hid (h8.size)
    have hZB14 : Below w.heap.size w w2 := hZB7.trans (h8.mono hZB7.size)
    have h15 := Lib.hid (h5.out.below h8); clear h5
    clear h8
    have h16 := Lib.hid (Below.refl w2.heap.size w2)
    clear h15
    go_wp2_with fail
    refine (toIntS aC cC lC w2 (hAC.out.below hZB14) hLC.out).mono ?_
    rintro e w3 ⟨rfl, h17, h18⟩
    have h19 := Lib.hid (RowIn.of_blk (lo := w2.heap.size) (hi := w3.heap.size) h17 (Nat.le_refl _) h17.lt); clear h17
    have h20 := Lib.hid (h18.size)
    have hZB21 : Below w.heap.size w w3 := hZB14.trans (h18.mono hZB14.size)
    have h22 := Lib.hid (h16.out.trans (h18.mono h16.out.size)); clear h16
    clear h18
    go_wp2_with fail
    refine (Hi.out (some ⟨w2.heap.size, 0, none⟩) lC.length w3 (Errs.keeps hsh.out hZB21) h19.out.row).mono ?_
    rintro e w4 ⟨ra24, rc25, rfl, _, _, hf26, h23⟩
    have h27 := Lib.hid (hf26); clear hf26
    have h28 := Lib.hid (h23.size)
    have hZB29 : Below w.heap.size w w4 := hZB21.trans (h23.mono hZB21.size)
    have h30 := Lib.hid (h22.out.trans (h23.mono h22.out.size)); clear h22
    have h31 := Lib.hid (h19.out.below h23); clear h19
    clear h23
    go_wp2_with fail
    refine (eqIntSS ra24 ra9 rc25 rc10 R0 w4 h27.out.grid (h12.out.below h30.out) (Nat.le_trans hZN0.out (by decide))).mono ?_
    rintro e w5 ⟨rfl, h32⟩
    have h33 := Lib.hid (h32.size)
    have hZB34 : Below w.heap.size w w5 := hZB29.trans (h32.mono hZB29.size)
    have h35 := Lib.hid (h30.out.trans (h32.mono h30.out.size)); clear h30
    have h36 := Lib.hid (h31.out.below h32); clear h31
    have h37 := Lib.hid (h27.out.below h32); clear h27
    clear h32
    go_wp2_with fail
    refine (toIntS aC cC lC w5 (hAC.out.below hZB34) hLC.out).mono ?_
    rintro e w6 ⟨rfl, h39, h40⟩
    have h41 := Lib.hid (RowIn.of_blk (lo := w5.heap.size) (hi := w6.heap.size) h39 (Nat.le_refl _) h39.lt); clear h39
    have h42 := Lib.hid (h40.size)
    have hZB43 : Below w.heap.size w w6 := hZB34.trans (h40.mono hZB34.size)
    have h44 := Lib.hid (h35.out.trans (h40.mono h35.out.size)); clear h35
    have h45 := Lib.hid (h36.out.below h40); clear h36
    have h46 := Lib.hid (h37.out.below h40); clear h37
    clear h40
    go_wp2_with fail
    refine (eqIntS (some ⟨w2.heap.size, 0, none⟩) (some ⟨w5.heap.size, 0, none⟩) lC.length lC.length lC w6 h45.out.row h41.out.row (Nat.le_trans hLC.out (by decide))).mono ?_
    rintro e w7 ⟨rfl, h47⟩
    have h48 := Lib.hid (h47.size)
    have hZB49 : Below w.heap.size w w7 := hZB43.trans (h47.mono hZB43.size)
    have h50 := Lib.hid (h44.out.trans (h47.mono h44.out.size)); clear h44
    have h51 := Lib.hid (h45.out.below h47); clear h45
    have h52 := Lib.hid (h41.out.below h47); clear h41
    have h53 := Lib.hid (h46.out.below h47); clear h46
    clear h47
    clear h52
    go_wp2_with fail
    refine (markIntS_only (some ⟨w2.heap.size, 0, none⟩) lC.length 1 w2.heap.size w3.heap.size lC w7 h51.out (by have := h2.out; have := h6.out; have := h13.out; have := h20.out; have := h28.out; have := h33.out; have := h42.out; have := h48.out; have := hLC.out; have := hQ0.out; omega) (by have := h2.out; have := h6.out; have := h13.out; have := h20.out; have := h28.out; have := h33.out; have := h42.out; have := h48.out; have := hLC.out; have := hQ0.out; omega)).mono ?_
    rintro e w8 ⟨rfl, h55, h54⟩
    have hZB56 : Below w.heap.size w w8 := hZB49.trans (h54.below (by have := h2.out; have := h6.out; have := h13.out; have := h20.out; have := h28.out; have := h33.out; have := h42.out; have := h48.out; have := hLC.out; have := hQ0.out; omega) hZB49.size)
    have h57 := Lib.hid (h50.out.trans (h54.below (by have := h2.out; have := h6.out; have := h13.out; have := h20.out; have := h28.out; have := h33.out; have := h42.out; have := h48.out; have := hLC.out; have := hQ0.out; omega) h50.out.size)); clear h50
    have h58 := Lib.hid (h53.out.only h54 (by have := h2.out; have := h6.out; have := h13.out; have := h20.out; have := h28.out; have := h33.out; have := h42.out; have := h48.out; have := hLC.out; have := hQ0.out; omega)); clear h53
    have h59 := Lib.hid (h54.size)
    clear h54 h51
    clear h55
    go_wp2_with fail
    refine (eqIntSS ra24 ra9 rc25 rc10 R0 w8 h58.out.grid (h12.out.below h57.out) (Nat.le_trans hZN0.out (by decide))).mono ?_
    rintro e w9 ⟨rfl, h60⟩
    have h61 := Lib.hid (h60.size)
    have hZB62 : Below w.heap.size w w9 := hZB56.trans (h60.mono hZB56.size)
    have h63 := Lib.hid (h57.out.trans (h60.mono h57.out.size)); clear h57
    have h64 := Lib.hid (h58.out.below h60); clear h58
    clear h60
    go_wp2_with fail
    refine (markIntSS ra24 rc25 1 w3.heap.size w4.heap.size R0 w9 h64.out (by have := h2.out; have := h6.out; have := h13.out; have := h20.out; have := h28.out; have := h33.out; have := h42.out; have := h48.out; have := h59.out; have := h61.out; have := hLC.out; have := hQ0.out; omega) (Nat.le_trans hZN0.out (by decide))).mono ?_
    rintro e w10 ⟨rfl, h66, h65⟩
    have hZB67 : Below w.heap.size w w10 := hZB62.trans (h65.below (by have := h2.out; have := h6.out; have := h13.out; have := h20.out; have := h28.out; have := h33.out; have := h42.out; have := h48.out; have := h59.out; have := h61.out; have := hLC.out; have := hQ0.out; omega) hZB62.size)
    have h68 := Lib.hid (h63.out.trans (h65.below (by have := h2.out; have := h6.out; have := h13.out; have := h20.out; have := h28.out; have := h33.out; have := h42.out; have := h48.out; have := h59.out; have := h61.out; have := hLC.out; have := hQ0.out; omega) h63.out.size)); clear h63
    have h69 := Lib.hid (h65.size)
    clear h65 h64
    have h70 := Lib.hid (h66); clear h66
    go_wp2_with fail
    refine (heldIntSS ra24 rc25 1 R0 w10 h70.out.grid (by have := h2.out; have := h6.out; have := h13.out; have := h20.out; have := h28.out; have := h33.out; have := h42.out; have := h48.out; have := h59.out; have := h61.out; have := h69.out; have := hLC.out; have := hQ0.out; omega) (Nat.le_trans hZN0.out (by decide))).mono ?_
    rintro e w11 ⟨rfl, h71⟩
    have h72 := Lib.hid (h71.size)
    have hZB73 : Below w.heap.size w w11 := hZB67.trans (h71.mono hZB67.size)
    have h74 := Lib.hid (h68.out.trans (h71.mono h68.out.size)); clear h68
    have h75 := Lib.hid (h70.out.below h71); clear h70
    clear h71
    go_wp2_with fail
    refine (toIntS aC cC lC w11 (hAC.out.below hZB73) hLC.out).mono ?_
    rintro e w12 ⟨rfl, h77, h78⟩
    have h79 := Lib.hid (RowIn.of_blk (lo := w11.heap.size) (hi := w12.heap.size) h77 (Nat.le_refl _) h77.lt); clear h77
    have h80 := Lib.hid (h78.size)
    have hZB81 : Below w.heap.size w w12 := hZB73.trans (h78.mono hZB73.size)
    have h82 := Lib.hid (h74.out.trans (h78.mono h74.out.size)); clear h74
    have h83 := Lib.hid (h75.out.below h78); clear h75
    clear h78
    go_wp2_with fail
    refine (Hi.out (some ⟨w11.heap.size, 0, none⟩) lC.length w12 (Errs.keeps hsh.out hZB81) h79.out.row).mono ?_
    rintro e w13 ⟨ra85, rc86, rfl, _, _, hf87, h84⟩
    have h88 := Lib.hid (hf87); clear hf87
    have h89 := Lib.hid (h84.size)
    have hZB90 : Below w.heap.size w w13 := hZB81.trans (h84.mono hZB81.size)
    have h91 := Lib.hid (h82.out.trans (h84.mono h82.out.size)); clear h82
    have h92 := Lib.hid (h79.out.below h84); clear h79
    have h93 := Lib.hid (h83.out.below h84); clear h83
    clear h84
    clear h92
    go_wp2_with fail
    refine (eqIntSS ra85 ra9 rc86 rc10 R0 w13 h88.out.grid (h12.out.below h91.out) (Nat.le_trans hZN0.out (by decide))).mono ?_
    rintro e w14 ⟨rfl, h94⟩
    have h95 := Lib.hid (h94.size)
    have hZB96 : Below w.heap.size w w14 := hZB90.trans (h94.mono hZB90.size)
    have h97 := Lib.hid (h91.out.trans (h94.mono h91.out.size)); clear h91
    have h98 := Lib.hid (h93.out.below h94); clear h93
    have h99 := Lib.hid (h88.out.below h94); clear h88
    clear h94
    go_wp2_with fail
    refine (heldIntSS ra24 rc25 1 R0 w14 h98.out.grid (by have := h2.out; have := h6.out; have := h13.out; have := h20.out; have := h28.out; have := h33.out; have := h42.out; have := h48.out; have := h59.out; have := h61.out; have := h69.out; have := h72.out; have := h80.out; have := h89.out; have := h95.out; have := hLC.out; have := hQ0.out; omega) (Nat.le_trans hZN0.out (by decide))).mono ?_
    rintro e w15 ⟨rfl, h100⟩
    have h101 := Lib.hid (h100.size)
    have hZB102 : Below w.heap.size w w15 := hZB96.trans (h100.mono hZB96.size)
    have h103 := Lib.hid (h97.out.trans (h100.mono h97.out.size)); clear h97
    have h104 := Lib.hid (h98.out.below h100); clear h98
    have h105 := Lib.hid (h99.out.below h100); clear h99
    clear h100
    go_wp2
    go_ret
    exact ⟨rfl, hZB102⟩
  · have hbig : 1048576 < lC.length := by omega
    go_enter Tryd.func7, Tryd.ntmps7
    go_wp2
    go_ret
    exact ⟨rfl, Below.refl _ _⟩

set_option maxRecDepth 100000 in
theorem contract (H : Type) (enc : TypeId × Value → H) (W : World) (base : Nat) (args : Array Value) (ds gs : List (DataW H)) (before : List MemPlace)
    (hval : ∀ (j : Nat) t v, Tryd.f7.params[j]? = some t → args[j]? = some v → Value.okWide Tryd.prog W .any base t v)
    (hW : DataW.Whole enc Tryd.prog Tryd.f7.params.toList Rows.fnExactTwistMatrixSpec.vars false W args.toList ds gs before) (hL : laidMetH Tryd.prog Rows.fnExactTwistMatrixRow.laid W) :
    Calls Tryd.prog 7 args W fun e W' => ∃ v, e = .returned v ∧ Rows.fnExactTwistMatrixSpec.post enc Tryd.prog Tryd.f7 false true false false W args v W' := by
  have hW' := hW
  obtain ⟨p, q, hA0, hV, rfl, hfz, hnd⟩ := hW
  have hA : DataW.TrodAll enc Tryd.prog W 0 (fun _ => true) true Tryd.f7.params.toList args.toList ds p := hA0
  rw [Tryd.params7] at hA hval
  obtain ⟨v0, vs0, d0, ds0, p0, q0, hargs, rfl, rfl, h0, r0⟩ := trodAll_cons hA
  obtain ⟨v1, vs1, d1, ds1, p1, q1, rfl, rfl, rfl, h1, r1⟩ := trodAll_cons r0
  obtain ⟨rfl, rfl, rfl⟩ := trodAll_nil r1
  obtain rfl : args = #[v0, v1] := by cases args; simp_all
  have hV : DataW.TrodVars enc Tryd.prog W (fun _ => true) ["loop.example/g03105/impl.errTooGreat"] gs q := hV
  obtain ⟨sa, hsv⟩ := Er.var_of hL (by rfl)
  have hvr : ∀ {X : World}, X.var? Tryd.prog "loop.example/g03105/impl.errTooGreat" = some #[.iface 100 (.pointer (some sa))] → ∀ sp : Nat → Bool, DataW.TrodVars enc Tryd.prog X sp ["loop.example/g03105/impl.errTooGreat"] [tok enc (.iface 100 (.pointer (some sa)))] [.cell 0 0] :=
    fun x0 sp => vars_read1 enc Er.gGreat Er.tGreat Tryd.underlying78 x0 trivial sp
  obtain ⟨rfl, rfl⟩ := hV.unique (hvr hsv _)
  have k0 := h0
  have k1 := h1
  obtain ⟨G, rfl, rfl, rfl, wG⟩ := open_int Tryd.underlying3 (hval 0 3 v0 rfl rfl) h0
  have bG := bounds_i64 wG
  obtain ⟨aC, cC, lC, rfl, wC⟩ := Read.ints_of (hval 1 24 v1 rfl rfl) h1
  clear hA0
  simp only [List.append_nil] at hW'
  refine (law G bG.1 bG.2 aC cC lC W wC (errs_of hL (by rfl))).mono fun e W' ⟨he, hg⟩ => ?_
  subst he
  exact ⟨_, rfl, post_of_below (pv := [.cell 0 0]) hW' (fun _ _ _ => trodAll_cons_mk (shut_bool Tryd.underlying4 _) trodAll_mk0)
    (fun sp hs => trodAll_cons_mk (trod_keeps (t := 3) (by kernel_rfl) (by kernel_rfl) (by kernel_rfl) k0 hg (fun x hx => hW'.lt x (by simp_all)) (fun x hx => hs x (by simp_all))) (trodAll_cons_mk (trod_keeps (t := 24) (by kernel_rfl) (by kernel_rfl) (by kernel_rfl) k1 hg (fun x hx => hW'.lt x (by simp_all)) (fun x hx => hs x (by simp_all))) (trodAll_mk0)))
    (fun sp _ => hvr (Er.var_keeps hg Er.gGreat hsv) sp) (by simp) hg (ok_one (by kernel_rfl) rfl (okWide_bool_mk Tryd.underlying4 _))⟩

theorem laid_met (os : Os) : laidMetH Tryd.prog Rows.fnExactTwistMatrixRow.laid ((World.doorLaid Tryd.prog 28 os).forCall (fun _ _ => 0) ⟨#[], #[.int .i64 0, .slice none 0 0], []⟩).memory :=
  Low.met os #[.int .i64 0, .slice none 0 0] Rows.fnExactTwistMatrixRow.laid (Rows.fnExactTwistMatrixRow.laid.map (·.1)) (by rfl)
set_option maxRecDepth 100000 in
theorem lifted (os : Os) (started : os.Started) (H : Type) (enc : TypeId × Value → H) (F : Stop.Interp) :
    ReturnsInHanded {} Tryd.checked os 7 .any ((OpenSpec.ofChange Rows.fnExactTwistMatrixSpec).preRow enc Tryd.prog Tryd.f7 Rows.fnExactTwistMatrixRow.domain false Rows.fnExactTwistMatrixRow.laid) (((OpenSpec.ofChange Rows.fnExactTwistMatrixSpec).at F).post enc Tryd.prog Tryd.f7 false true false false) := by
  refine returnsInHanded_of_row (C := Tryd.checked) (s := OpenSpec.ofChange Rows.fnExactTwistMatrixSpec) Low.own started (by kernel_rfl) Tryd.func7
    (witness_row_atRef (enc := enc) (C := Tryd.checked) false (World.doorLaid Tryd.prog 28 os) #[.int .i64 0, .slice none 0 0] (by unfold World.doorLaid; rfl) (Low.shapeB os #[.int .i64 0, .slice none 0 0]) (Low.shapeR os #[.int .i64 0, .slice none 0 0]) (by kernel_rfl)
      (OpenSpec.preRow_of_B rfl 8 (by kernel_rfl) (by kernel_rfl) (laid_met os))) ?_
  intro W base args ds gs before hval hW _ _ _ hL hShaped _
  exact contract H enc W base args ds gs before hval hW hL

theorem said : Rows.FnExactTwistMatrixSaid :=
  OpenClaim.holds_of_cond 7 Tryd.f7 rfl rfl rfl rfl rfl rfl rfl ⟨rfl, rfl, rfl, rfl, rfl⟩ rfl rfl rfl rfl rfl (by kernel_rfl) Tryd.func7 (by kernel_rfl)
    (of_decide_eq_true (by kernel_rfl)) (by unfold Func.isWrapper; first | (rw [if_pos (by decide +kernel)]; kernel_rfl) | (rw [if_neg (by decide +kernel)]; exact ⟨rfl, rfl⟩))
    (fun os started H enc _ F => by rw [OpenClaim.pre_eq_preRow]; exact lifted os started H enc F)

theorem looks (f : FuncId) (fn : Func) (hf : Tryd.pinned.checked.prog.funcNamed "loop.example/g03105/laws.FnExactTwistMatrix" = some f) (hfn : Tryd.pinned.checked.prog.funcs[f]? = some fn) :
    true = Tryd.pinned.checked.prog.looks [] ∧ ∀ (j : Nat) t, fn.params[j]? = some t → Tryd.pinned.checked.prog.wantsStandIn t = false := by
  obtain rfl : f = 7 := Option.some.inj ((show Tryd.prog.funcNamed "loop.example/g03105/laws.FnExactTwistMatrix" = some 7 by kernel_rfl).symm.trans hf) |>.symm
  obtain rfl : fn = Tryd.f7 := (Option.some.inj (Tryd.func7.symm.trans hfn)).symm
  refine ⟨by kernel_rfl, fun j t ht => ?_⟩
  rw [Tryd.params7] at ht
  have hm : t ∈ [3, 24] := by simpa using Array.mem_of_getElem? ht
  have hall : ([3, 24].all fun u => !Tryd.prog.wantsStandIn u) = true := by kernel_rfl
  exact (show Tryd.prog.wantsStandIn t = false by simpa using List.all_eq_true.1 hall t hm)

theorem card : Rows.FnExactTwistMatrixCardSaid :=
  Claim7.holds_tied_plain_at .later [] _ _ _ _ said (fun _ h => by cases h) (by kernel_rfl) (fun _ h => by cases h) fnExactTwistMatrix_row_tie rfl ⟨rfl, rfl⟩ (by kernel_rfl) rfl looks (by kernel_rfl)
end Go.Proofs.YtamgimdjnmcpaaaDoor.fnExactTwistMatrix
