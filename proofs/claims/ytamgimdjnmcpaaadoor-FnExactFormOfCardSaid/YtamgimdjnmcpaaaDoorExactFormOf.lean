/-
  At every argument the program's FormOf returns what the model returns, writes into no argument, and its answer owns its memory.
-/
import Derived.Test.YtamgimdjnmcpaaaDoorCards
import Derived.Test.YtamgimdjnmcpaaaDoorTie
import Derived.Test.YtamgimdjnmcpaaaDoorBase
import Derived.Test.YtamgimdjnmcpaaaDoorLow
import Derived.Test.YtamgimdjnmcpaaaDoorDoorLow
import Derived.Test.YtamgimdjnmcpaaaDoorSlice
import Derived.Test.YtamgimdjnmcpaaaDoorIntRow
import Derived.Test.YtamgimdjnmcpaaaDoorInts
import Derived.Test.YtamgimdjnmcpaaaDoorOwn
import Derived.Test.YtamgimdjnmcpaaaDoorGrid
import Derived.Test.YtamgimdjnmcpaaaDoorGridWalk
import Derived.Test.YtamgimdjnmcpaaaDoorGridWalk2
import Derived.Test.YtamgimdjnmcpaaaDoorGridMark
import Derived.Test.YtamgimdjnmcpaaaDoorReadInts
import Derived.Test.YtamgimdjnmcpaaaDoorTw
import Derived.Test.YtamgimdjnmcpaaaDoorTwErr
import Derived.Test.YtamgimdjnmcpaaaDoorTwG
import Derived.Test.YtamgimdjnmcpaaaDoorAdTw
import Derived.Deep.DeepWitnessRowRef
import Derived.OpenShut
import Derived.Deep.DeepHandedRow
import Derived.LaidMore
import Derived.Stop.LaidErr
namespace Go.Proofs.YtamgimdjnmcpaaaDoor.fnExactFormOf
open Go.ChangeShapes Go.WideShapes Go.ChangeAt Go.RowKit Go.Sort
open Go.ChangeMaps (open_string)

set_option maxRecDepth 10000 in
set_option maxHeartbeats 2000000 in
theorem law (vG : Int) (hG0 : -9223372036854775808 ≤ vG) (hG1 : vG ≤ 9223372036854775807) (aX : Option Addr) (cX : Nat) (lX : List Int) (aY : Option Addr) (cY : Nat) (lY : List Int) (w : World) (hhX : RowAt w aX (intCells lX) ∧ lX.length ≤ maxLen ∧ I64s lX) (hhY : RowAt w aY (intCells lY) ∧ lY.length ≤ maxLen ∧ I64s lY) (hsh : Errs w) :
    Calls Tryd.prog 5 #[.int .i64 vG, .slice aX lX.length cX, .slice aY lY.length cY] w fun e w' => e = .returned (.bool true) ∧ Below w.heap.size w w' := by
  have hZB0 := Below.refl w.heap.size w
  have hsh := Lib.hid hsh
  obtain ⟨hAX, hMX, hIX⟩ := hhX
  have hAX := Lib.hid hAX
  have hIX := Lib.hid hIX
  unfold maxLen at hMX
  obtain ⟨hAY, hMY, hIY⟩ := hhY
  have hAY := Lib.hid hAY
  have hIY := Lib.hid hIY
  unfold maxLen at hMY
  by_cases hlX : lX.length ≤ 1048576
  · skip
    have hLX := Lib.hid hlX
    by_cases hlY : lY.length ≤ 1048576
    · skip
      have hLY := Lib.hid hlY
      have c_spec := fun (aaX : Option Addr) (ccX : Nat) (aaY : Option Addr) (ccY : Nat) (W : World) (hrX : RowAt W aaX (intCells lX)) (hrY : RowAt W aaY (intCells lY)) => spec_FormOf vG aaX ccX lX aaY ccY lY W hG0 hG1 hrX hLX.out hrY hLY.out
      have c_impl := fun (aaX : Option Addr) (ccX : Nat) (aaY : Option Addr) (ccY : Nat) (W : World) (hsW : Errs W) (hrX : RowAt W aaX (intCells lX)) (hrY : RowAt W aaY (intCells lY)) => impl_FormOf vG aaX ccX lX aaY ccY lY W hsW hG0 hG1 hrX hLX.out hrY hLY.out
      generalize hV0 : (Tw.formOf vG lX lY) = S0 at *
      clear hV0
      have Hs := Lib.hid c_spec; have Hi := Lib.hid c_impl; clear c_spec c_impl
      go_enter Tryd.func5, Tryd.ntmps5
      have h2 := Lib.hid (show w.heap.size ≤ w.heap.size from Nat.le_refl _)
      go_wp2_with fail
      refine (toIntS aX cX lX w (hAX.out.below hZB0) hLX.out).mono ?_
      rintro e w1 ⟨rfl, h3, h4⟩
      have h5 := Lib.hid (RowIn.of_blk (lo := w.heap.size) (hi := w1.heap.size) h3 (Nat.le_refl _) h3.lt); clear h3
      have h6 := Lib.hid (h4.size)
      have hZB7 : Below w.heap.size w w1 := hZB0.trans (h4.mono hZB0.size)
      clear h4
      go_wp2_with fail
      refine (toIntS aY cY lY w1 (hAY.out.below hZB7) hLY.out).mono ?_
      rintro e w2 ⟨rfl, h9, h10⟩
      have h11 := Lib.hid (RowIn.of_blk (lo := w1.heap.size) (hi := w2.heap.size) h9 (Nat.le_refl _) h9.lt); clear h9
      have h12 := Lib.hid (h10.size)
      have hZB13 : Below w.heap.size w w2 := hZB7.trans (h10.mono hZB7.size)
      have h14 := Lib.hid (h5.out.below h10); clear h5
      clear h10
      go_wp2_with fail
      refine (Hs.out (some ⟨w.heap.size, 0, none⟩) lX.length (some ⟨w1.heap.size, 0, none⟩) lY.length w2 h14.out.row h11.out.row).mono ?_
      rintro e w3 ⟨rfl, h15⟩
      have h16 := Lib.hid (h15.size)
      have hZB17 : Below w.heap.size w w3 := hZB13.trans (h15.mono hZB13.size)
      have h18 := Lib.hid (h14.out.below h15); clear h14
      have h19 := Lib.hid (h11.out.below h15); clear h11
      clear h15
      clear h18
      clear h19
      go_wp2_with fail
      refine (toIntS aX cX lX w3 (hAX.out.below hZB17) hLX.out).mono ?_
      rintro e w4 ⟨rfl, h20, h21⟩
      have h22 := Lib.hid (RowIn.of_blk (lo := w3.heap.size) (hi := w4.heap.size) h20 (Nat.le_refl _) h20.lt); clear h20
      have h23 := Lib.hid (h21.size)
      have hZB24 : Below w.heap.size w w4 := hZB17.trans (h21.mono hZB17.size)
      clear h21
      go_wp2_with fail
      refine (toIntS aY cY lY w4 (hAY.out.below hZB24) hLY.out).mono ?_
      rintro e w5 ⟨rfl, h25, h26⟩
      have h27 := Lib.hid (RowIn.of_blk (lo := w4.heap.size) (hi := w5.heap.size) h25 (Nat.le_refl _) h25.lt); clear h25
      have h28 := Lib.hid (h26.size)
      have hZB29 : Below w.heap.size w w5 := hZB24.trans (h26.mono hZB24.size)
      have h30 := Lib.hid (h22.out.below h26); clear h22
      clear h26
      go_wp2_with fail
      refine (Hi.out (some ⟨w3.heap.size, 0, none⟩) lX.length (some ⟨w4.heap.size, 0, none⟩) lY.length w5 (Errs.keeps hsh.out hZB29) h30.out.row h27.out.row).mono ?_
      rintro e w6 ⟨rfl, h31⟩
      have h32 := Lib.hid (h31.size)
      have hZB33 : Below w.heap.size w w6 := hZB29.trans (h31.mono hZB29.size)
      have h34 := Lib.hid (h30.out.below h31); clear h30
      have h35 := Lib.hid (h27.out.below h31); clear h27
      clear h31
      go_wp2_with fail
      refine (toIntS aX cX lX w6 (hAX.out.below hZB33) hLX.out).mono ?_
      rintro e w7 ⟨rfl, h37, h38⟩
      have h39 := Lib.hid (RowIn.of_blk (lo := w6.heap.size) (hi := w7.heap.size) h37 (Nat.le_refl _) h37.lt); clear h37
      have h40 := Lib.hid (h38.size)
      have hZB41 : Below w.heap.size w w7 := hZB33.trans (h38.mono hZB33.size)
      have h42 := Lib.hid (h34.out.below h38); clear h34
      have h43 := Lib.hid (h35.out.below h38); clear h35
      clear h38
      go_wp2_with fail
      refine (eqIntS (some ⟨w3.heap.size, 0, none⟩) (some ⟨w6.heap.size, 0, none⟩) lX.length lX.length lX w7 h42.out.row h39.out.row (Nat.le_trans hLX.out (by decide))).mono ?_
      rintro e w8 ⟨rfl, h44⟩
      have h45 := Lib.hid (h44.size)
      have hZB46 : Below w.heap.size w w8 := hZB41.trans (h44.mono hZB41.size)
      have h47 := Lib.hid (h42.out.below h44); clear h42
      have h48 := Lib.hid (h43.out.below h44); clear h43
      have h49 := Lib.hid (h39.out.below h44); clear h39
      clear h44
      clear h49
      go_wp2_with fail
      refine (toIntS aY cY lY w8 (hAY.out.below hZB46) hLY.out).mono ?_
      rintro e w9 ⟨rfl, h51, h52⟩
      have h53 := Lib.hid (RowIn.of_blk (lo := w8.heap.size) (hi := w9.heap.size) h51 (Nat.le_refl _) h51.lt); clear h51
      have h54 := Lib.hid (h52.size)
      have hZB55 : Below w.heap.size w w9 := hZB46.trans (h52.mono hZB46.size)
      have h56 := Lib.hid (h47.out.below h52); clear h47
      have h57 := Lib.hid (h48.out.below h52); clear h48
      clear h52
      go_wp2_with fail
      refine (eqIntS (some ⟨w4.heap.size, 0, none⟩) (some ⟨w8.heap.size, 0, none⟩) lY.length lY.length lY w9 h57.out.row h53.out.row (Nat.le_trans hLY.out (by decide))).mono ?_
      rintro e w10 ⟨rfl, h58⟩
      have h59 := Lib.hid (h58.size)
      have hZB60 : Below w.heap.size w w10 := hZB55.trans (h58.mono hZB55.size)
      have h61 := Lib.hid (h56.out.below h58); clear h56
      have h62 := Lib.hid (h57.out.below h58); clear h57
      have h63 := Lib.hid (h53.out.below h58); clear h53
      clear h58
      clear h63
      go_wp2
      go_ret
      exact ⟨rfl, hZB60⟩
    · have hbig : 1048576 < lY.length := by omega
      go_enter Tryd.func5, Tryd.ntmps5
      go_wp2
      go_ret
      exact ⟨rfl, Below.refl _ _⟩
  · have hbig : 1048576 < lX.length := by omega
    go_enter Tryd.func5, Tryd.ntmps5
    go_wp2
    go_ret
    exact ⟨rfl, Below.refl _ _⟩

set_option maxRecDepth 100000 in
theorem contract (H : Type) (enc : TypeId × Value → H) (W : World) (base : Nat) (args : Array Value) (ds gs : List (DataW H)) (before : List MemPlace)
    (hval : ∀ (j : Nat) t v, Tryd.f5.params[j]? = some t → args[j]? = some v → Value.okWide Tryd.prog W .any base t v)
    (hW : DataW.Whole enc Tryd.prog Tryd.f5.params.toList Rows.fnExactFormOfSpec.vars false W args.toList ds gs before) (hL : laidMetH Tryd.prog Rows.fnExactFormOfRow.laid W) :
    Calls Tryd.prog 5 args W fun e W' => ∃ v, e = .returned v ∧ Rows.fnExactFormOfSpec.post enc Tryd.prog Tryd.f5 false true false false W args v W' := by
  have hW' := hW
  obtain ⟨p, q, hA0, hV, rfl, hfz, hnd⟩ := hW
  have hA : DataW.TrodAll enc Tryd.prog W 0 (fun _ => true) true Tryd.f5.params.toList args.toList ds p := hA0
  rw [Tryd.params5] at hA hval
  obtain ⟨v0, vs0, d0, ds0, p0, q0, hargs, rfl, rfl, h0, r0⟩ := trodAll_cons hA
  obtain ⟨v1, vs1, d1, ds1, p1, q1, rfl, rfl, rfl, h1, r1⟩ := trodAll_cons r0
  obtain ⟨v2, vs2, d2, ds2, p2, q2, rfl, rfl, rfl, h2, r2⟩ := trodAll_cons r1
  obtain ⟨rfl, rfl, rfl⟩ := trodAll_nil r2
  obtain rfl : args = #[v0, v1, v2] := by cases args; simp_all
  have hV : DataW.TrodVars enc Tryd.prog W (fun _ => true) ["loop.example/g03105/impl.errTooGreat"] gs q := hV
  obtain ⟨sa, hsv⟩ := Er.var_of hL (by rfl)
  have hvr : ∀ {X : World}, X.var? Tryd.prog "loop.example/g03105/impl.errTooGreat" = some #[.iface 100 (.pointer (some sa))] → ∀ sp : Nat → Bool, DataW.TrodVars enc Tryd.prog X sp ["loop.example/g03105/impl.errTooGreat"] [tok enc (.iface 100 (.pointer (some sa)))] [.cell 0 0] :=
    fun x0 sp => vars_read1 enc Er.gGreat Er.tGreat Tryd.underlying78 x0 trivial sp
  obtain ⟨rfl, rfl⟩ := hV.unique (hvr hsv _)
  have k0 := h0
  have k1 := h1
  have k2 := h2
  obtain ⟨G, rfl, rfl, rfl, wG⟩ := open_int Tryd.underlying3 (hval 0 3 v0 rfl rfl) h0
  have bG := bounds_i64 wG
  obtain ⟨aX, cX, lX, rfl, wX⟩ := Read.ints_of (hval 1 24 v1 rfl rfl) h1
  obtain ⟨aY, cY, lY, rfl, wY⟩ := Read.ints_of (hval 2 24 v2 rfl rfl) h2
  clear hA0
  simp only [List.append_nil] at hW'
  refine (law G bG.1 bG.2 aX cX lX aY cY lY W wX wY (errs_of hL (by rfl))).mono fun e W' ⟨he, hg⟩ => ?_
  subst he
  exact ⟨_, rfl, post_of_below (pv := [.cell 0 0]) hW' (fun _ _ _ => trodAll_cons_mk (shut_bool Tryd.underlying4 _) trodAll_mk0)
    (fun sp hs => trodAll_cons_mk (trod_keeps (t := 3) (by kernel_rfl) (by kernel_rfl) (by kernel_rfl) k0 hg (fun x hx => hW'.lt x (by simp_all)) (fun x hx => hs x (by simp_all))) (trodAll_cons_mk (trod_keeps (t := 24) (by kernel_rfl) (by kernel_rfl) (by kernel_rfl) k1 hg (fun x hx => hW'.lt x (by simp_all)) (fun x hx => hs x (by simp_all))) (trodAll_cons_mk (trod_keeps (t := 24) (by kernel_rfl) (by kernel_rfl) (by kernel_rfl) k2 hg (fun x hx => hW'.lt x (by simp_all)) (fun x hx => hs x (by simp_all))) (trodAll_mk0))))
    (fun sp _ => hvr (Er.var_keeps hg Er.gGreat hsv) sp) (by simp) hg (ok_one (by kernel_rfl) rfl (okWide_bool_mk Tryd.underlying4 _))⟩

theorem laid_met (os : Os) : laidMetH Tryd.prog Rows.fnExactFormOfRow.laid ((World.doorLaid Tryd.prog 28 os).forCall (fun _ _ => 0) ⟨#[], #[.int .i64 0, .slice none 0 0, .slice none 0 0], []⟩).memory :=
  Low.met os #[.int .i64 0, .slice none 0 0, .slice none 0 0] Rows.fnExactFormOfRow.laid (Rows.fnExactFormOfRow.laid.map (·.1)) (by rfl)
set_option maxRecDepth 100000 in
theorem lifted (os : Os) (started : os.Started) (H : Type) (enc : TypeId × Value → H) (F : Stop.Interp) :
    ReturnsInHanded {} Tryd.checked os 5 .any ((OpenSpec.ofChange Rows.fnExactFormOfSpec).preRow enc Tryd.prog Tryd.f5 Rows.fnExactFormOfRow.domain false Rows.fnExactFormOfRow.laid) (((OpenSpec.ofChange Rows.fnExactFormOfSpec).at F).post enc Tryd.prog Tryd.f5 false true false false) := by
  refine returnsInHanded_of_row (C := Tryd.checked) (s := OpenSpec.ofChange Rows.fnExactFormOfSpec) Low.own started (by kernel_rfl) Tryd.func5
    (witness_row_atRef (enc := enc) (C := Tryd.checked) false (World.doorLaid Tryd.prog 28 os) #[.int .i64 0, .slice none 0 0, .slice none 0 0] (by unfold World.doorLaid; rfl) (Low.shapeB os #[.int .i64 0, .slice none 0 0, .slice none 0 0]) (Low.shapeR os #[.int .i64 0, .slice none 0 0, .slice none 0 0]) (by kernel_rfl)
      (OpenSpec.preRow_of_B rfl 8 (by kernel_rfl) (by kernel_rfl) (laid_met os))) ?_
  intro W base args ds gs before hval hW _ _ _ hL hShaped _
  exact contract H enc W base args ds gs before hval hW hL

theorem said : Rows.FnExactFormOfSaid :=
  OpenClaim.holds_of_cond 5 Tryd.f5 rfl rfl rfl rfl rfl rfl rfl ⟨rfl, rfl, rfl, rfl, rfl⟩ rfl rfl rfl rfl rfl (by kernel_rfl) Tryd.func5 (by kernel_rfl)
    (of_decide_eq_true (by kernel_rfl)) (by unfold Func.isWrapper; first | (rw [if_pos (by decide +kernel)]; kernel_rfl) | (rw [if_neg (by decide +kernel)]; exact ⟨rfl, rfl⟩))
    (fun os started H enc _ F => by rw [OpenClaim.pre_eq_preRow]; exact lifted os started H enc F)

theorem looks (f : FuncId) (fn : Func) (hf : Tryd.pinned.checked.prog.funcNamed "loop.example/g03105/laws.FnExactFormOf" = some f) (hfn : Tryd.pinned.checked.prog.funcs[f]? = some fn) :
    true = Tryd.pinned.checked.prog.looks [] ∧ ∀ (j : Nat) t, fn.params[j]? = some t → Tryd.pinned.checked.prog.wantsStandIn t = false := by
  obtain rfl : f = 5 := Option.some.inj ((show Tryd.prog.funcNamed "loop.example/g03105/laws.FnExactFormOf" = some 5 by kernel_rfl).symm.trans hf) |>.symm
  obtain rfl : fn = Tryd.f5 := (Option.some.inj (Tryd.func5.symm.trans hfn)).symm
  refine ⟨by kernel_rfl, fun j t ht => ?_⟩
  rw [Tryd.params5] at ht
  have hm : t ∈ [3, 24, 24] := by simpa using Array.mem_of_getElem? ht
  have hall : ([3, 24, 24].all fun u => !Tryd.prog.wantsStandIn u) = true := by kernel_rfl
  exact (show Tryd.prog.wantsStandIn t = false by simpa using List.all_eq_true.1 hall t hm)

theorem card : Rows.FnExactFormOfCardSaid :=
  Claim7.holds_tied_plain_at .later [] _ _ _ _ said (fun _ h => by cases h) (by kernel_rfl) (fun _ h => by cases h) fnExactFormOf_row_tie rfl ⟨rfl, rfl⟩ (by kernel_rfl) rfl looks (by kernel_rfl)
end Go.Proofs.YtamgimdjnmcpaaaDoor.fnExactFormOf
