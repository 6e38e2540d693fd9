/-
  At every argument the program's CommuteIn returns what the model returns, writes into no argument, and its answer owns its memory.
-/
import Derived.Test.YtfaagbmaekoogaaBase
import Derived.Test.YtfaagbmaekoogaaLow
import Derived.Test.YtfaagbmaekoogaaSlice
import Derived.Test.YtfaagbmaekoogaaIntRow
import Derived.Test.YtfaagbmaekoogaaInts
import Derived.Test.YtfaagbmaekoogaaOwn
import Derived.Test.YtfaagbmaekoogaaGrid
import Derived.Test.YtfaagbmaekoogaaGridWalk
import Derived.Test.YtfaagbmaekoogaaGridWalk2
import Derived.Test.YtfaagbmaekoogaaGridMark
import Derived.Test.YtfaagbmaekoogaaAppend
import Derived.Test.YtfaagbmaekoogaaGridRows
import Derived.Test.YtfaagbmaekoogaaIsWord
import Derived.Test.YtfaagbmaekoogaaWord
import Derived.Test.YtfaagbmaekoogaaGrp
import Derived.Test.YtfaagbmaekoogaaGrpX
import Derived.Test.YtfaagbmaekoogaaReadInts
import Derived.Deep.DeepWitnessRowRef
import Derived.OpenShut
import Derived.Deep.DeepHandedRow
import Derived.LaidMore
namespace Go.Proofs.Ytfaagbmaekoogaa.fnExactCommuteIn
open Go.ChangeShapes Go.WideShapes Go.ChangeAt Go.RowKit Go.Sort
open Go.ChangeMaps (open_string)

set_option maxRecDepth 10000 in
set_option maxHeartbeats 2000000 in
theorem law (vG : Int) (hG0 : -9223372036854775808 ≤ vG) (hG1 : vG ≤ 9223372036854775807) (aV : Option Addr) (cV : Nat) (lV : List Int) (aW : Option Addr) (cW : Nat) (lW : List Int) (w : World) (hhV : RowAt w aV (intCells lV) ∧ lV.length ≤ maxLen ∧ I64s lV) (hhW : RowAt w aW (intCells lW) ∧ lW.length ≤ maxLen ∧ I64s lW) :
    Calls Try.prog 11 #[.int .i64 vG, .slice aV lV.length cV, .slice aW lW.length cW] w fun e w' => e = .returned (.bool true) ∧ Below w.heap.size w w' := by
  have hZB0 := Below.refl w.heap.size w
  obtain ⟨hAV, hMV, hIV⟩ := hhV
  have hAV := Lib.hid hAV
  have hIV := Lib.hid hIV
  unfold maxLen at hMV
  obtain ⟨hAW, hMW, hIW⟩ := hhW
  have hAW := Lib.hid hAW
  have hIW := Lib.hid hIW
  unfold maxLen at hMW
  by_cases hlV : lV.length ≤ 1048576
  · skip
    have hLV := Lib.hid hlV
    by_cases hlW : lW.length ≤ 1048576
    · skip
      have hLW := Lib.hid hlW
      have c_spec := fun (aaV : Option Addr) (ccV : Nat) (aaW : Option Addr) (ccW : Nat) (W : World) (hrV : RowAt W aaV (intCells lV)) (hrW : RowAt W aaW (intCells lW)) => spec_CommuteIn vG aaV ccV lV aaW ccW lW W hG0 hG1 hrV hLV.out hrW hLW.out
      have c_impl := fun (aaV : Option Addr) (ccV : Nat) (aaW : Option Addr) (ccW : Nat) (W : World) (hrV : RowAt W aaV (intCells lV)) (hrW : RowAt W aaW (intCells lW)) => impl_CommuteIn vG aaV ccV lV aaW ccW lW W hG0 hG1 hrV hLV.out hrW hLW.out
      generalize hV0 : (decide (Dn.CommW vG lV lW)) = S0 at *
      clear hV0
      have Hs := Lib.hid c_spec; have Hi := Lib.hid c_impl; clear c_spec c_impl
      go_enter Try.func11, Try.ntmps11
      have h2 := Lib.hid (show w.heap.size ≤ w.heap.size from Nat.le_refl _)
      go_wp2_with fail
      refine (toIntS aV cV lV w (hAV.out.below hZB0) hLV.out).mono ?_
      rintro e w1 ⟨rfl, h3, h4⟩
      have h5 := Lib.hid (RowIn.of_blk (lo := w.heap.size) (hi := w1.heap.size) h3 (Nat.le_refl _) h3.lt); clear h3
      have h6 := Lib.hid (h4.size)
      have hZB7 : Below w.heap.size w w1 := hZB0.trans (h4.mono hZB0.size)
      clear h4
      go_wp2_with fail
      refine (toIntS aW cW lW w1 (hAW.out.below hZB7) hLW.out).mono ?_
      rintro e w2 ⟨rfl, h9, h10⟩
      have h11 := Lib.hid (RowIn.of_blk (lo := w1.heap.size) (hi := w2.heap.size) h9 (Nat.le_refl _) h9.lt); clear h9
      have h12 := Lib.hid (h10.size)
      have hZB13 : Below w.heap.size w w2 := hZB7.trans (h10.mono hZB7.size)
      have h14 := Lib.hid (h5.out.below h10); clear h5
      clear h10
      go_wp2_with fail
      refine (Hs.out (some ⟨w.heap.size, 0, none⟩) lV.length (some ⟨w1.heap.size, 0, none⟩) lW.length w2 h14.out.row h11.out.row).mono ?_
      rintro e w3 ⟨rfl, h15⟩
      have h16 := Lib.hid (h15.size)
      have hZB17 : Below w.heap.size w w3 := hZB13.trans (h15.mono hZB13.size)
      have h18 := Lib.hid (h14.out.below h15); clear h14
      have h19 := Lib.hid (h11.out.below h15); clear h11
      clear h15
      clear h18
      clear h19
      go_wp2_with fail
      refine (toIntS aV cV lV w3 (hAV.out.below hZB17) hLV.out).mono ?_
      rintro e w4 ⟨rfl, h20, h21⟩
      have h22 := Lib.hid (RowIn.of_blk (lo := w3.heap.size) (hi := w4.heap.size) h20 (Nat.le_refl _) h20.lt); clear h20
      have h23 := Lib.hid (h21.size)
      have hZB24 : Below w.heap.size w w4 := hZB17.trans (h21.mono hZB17.size)
      clear h21
      go_wp2_with fail
      refine (toIntS aW cW lW w4 (hAW.out.below hZB24) hLW.out).mono ?_
      rintro e w5 ⟨rfl, h25, h26⟩
      have h27 := Lib.hid (RowIn.of_blk (lo := w4.heap.size) (hi := w5.heap.size) h25 (Nat.le_refl _) h25.lt); clear h25
      have h28 := Lib.hid (h26.size)
      have hZB29 : Below w.heap.size w w5 := hZB24.trans (h26.mono hZB24.size)
      have h30 := Lib.hid (h22.out.below h26); clear h22
      clear h26
      go_wp2_with fail
      refine (Hi.out (some ⟨w3.heap.size, 0, none⟩) lV.length (some ⟨w4.heap.size, 0, none⟩) lW.length w5 h30.out.row h27.out.row).mono ?_
      rintro e w6 ⟨rfl, h31⟩
      have h32 := Lib.hid (h31.size)
      have hZB33 : Below w.heap.size w w6 := hZB29.trans (h31.mono hZB29.size)
      have h34 := Lib.hid (h30.out.below h31); clear h30
      have h35 := Lib.hid (h27.out.below h31); clear h27
      clear h31
      go_wp2_with fail
      refine (toIntS aV cV lV w6 (hAV.out.below hZB33) hLV.out).mono ?_
      rintro e w7 ⟨rfl, h37, h38⟩
      have h39 := Lib.hid (RowIn.of_blk (lo := w6.heap.size) (hi := w7.heap.size) h37 (Nat.le_refl _) h37.lt); clear h37
      have h40 := Lib.hid (h38.size)
      have hZB41 : Below w.heap.size w w7 := hZB33.trans (h38.mono hZB33.size)
      have h42 := Lib.hid (h34.out.below h38); clear h34
      have h43 := Lib.hid (h35.out.below h38); clear h35
      clear h38
      go_wp2_with fail
      refine (eqIntS (some ⟨w3.heap.size, 0, none⟩) (some ⟨w6.heap.size, 0, none⟩) lV.length lV.length lV w7 h42.out.row h39.out.row (Nat.le_trans hLV.out (by decide))).mono ?_
      rintro e w8 ⟨rfl, h44⟩
      have h45 := Lib.hid (h44.size)
      have hZB46 : Below w.heap.size w w8 := hZB41.trans (h44.mono hZB41.size)
      have h47 := Lib.hid (h42.out.below h44); clear h42
      have h48 := Lib.hid (h43.out.below h44); clear h43
      have h49 := Lib.hid (h39.out.below h44); clear h39
      clear h44
      clear h49
      go_wp2_with fail
      refine (toIntS aW cW lW w8 (hAW.out.below hZB46) hLW.out).mono ?_
      rintro e w9 ⟨rfl, h51, h52⟩
      have h53 := Lib.hid (RowIn.of_blk (lo := w8.heap.size) (hi := w9.heap.size) h51 (Nat.le_refl _) h51.lt); clear h51
      have h54 := Lib.hid (h52.size)
      have hZB55 : Below w.heap.size w w9 := hZB46.trans (h52.mono hZB46.size)
      have h56 := Lib.hid (h47.out.below h52); clear h47
      have h57 := Lib.hid (h48.out.below h52); clear h48
      clear h52
      go_wp2_with fail
      refine (eqIntS (some ⟨w4.heap.size, 0, none⟩) (some ⟨w8.heap.size, 0, none⟩) lW.length lW.length lW w9 h57.out.row h53.out.row (Nat.le_trans hLW.out (by decide))).mono ?_
      rintro e w10 ⟨rfl, h58⟩
      have h59 := Lib.hid (h58.size)
      have hZB60 : Below w.heap.size w w10 := hZB55.trans (h58.mono hZB55.size)
      have h61 := Lib.hid (h56.out.below h58); clear h56
      have h62 := Lib.hid (h57.out.below h58); clear h57
      have h63 := Lib.hid (h53.out.below h58); clear h53
      clear h58
      clear h63
      go_wp2
      go_ret
      exact ⟨rfl, hZB60⟩
    · have hbig : 1048576 < lW.length := by omega
      go_enter Try.func11, Try.ntmps11
      go_wp2
      go_ret
      exact ⟨rfl, Below.refl _ _⟩
  · have hbig : 1048576 < lV.length := by omega
    go_enter Try.func11, Try.ntmps11
    go_wp2
    go_ret
    exact ⟨rfl, Below.refl _ _⟩

set_option maxRecDepth 100000 in
theorem contract (H : Type) (enc : TypeId × Value → H) (W : World) (base : Nat) (args : Array Value) (ds gs : List (DataW H)) (before : List MemPlace)
    (hval : ∀ (j : Nat) t v, Try.f11.params[j]? = some t → args[j]? = some v → Value.okWide Try.prog W .any base t v)
    (hW : DataW.Whole enc Try.prog Try.f11.params.toList Rows.fnExactCommuteInSpec.vars false W args.toList ds gs before) :
    Calls Try.prog 11 args W fun e W' => ∃ v, e = .returned v ∧ Rows.fnExactCommuteInSpec.post enc Try.prog Try.f11 false true false false W args v W' := by
  have hW' := hW
  obtain ⟨p, q, hA0, hV, rfl, hfz, hnd⟩ := hW
  have hA : DataW.TrodAll enc Try.prog W 0 (fun _ => true) true Try.f11.params.toList args.toList ds p := hA0
  rw [Try.params11] at hA hval
  obtain ⟨v0, vs0, d0, ds0, p0, q0, hargs, rfl, rfl, h0, r0⟩ := trodAll_cons hA
  obtain ⟨v1, vs1, d1, ds1, p1, q1, rfl, rfl, rfl, h1, r1⟩ := trodAll_cons r0
  obtain ⟨v2, vs2, d2, ds2, p2, q2, rfl, rfl, rfl, h2, r2⟩ := trodAll_cons r1
  obtain ⟨rfl, rfl, rfl⟩ := trodAll_nil r2
  obtain rfl : args = #[v0, v1, v2] := by cases args; simp_all
  obtain ⟨rfl, rfl⟩ := trodVars_none hV
  have k0 := h0
  have k1 := h1
  have k2 := h2
  obtain ⟨G, rfl, rfl, rfl, wG⟩ := open_int Try.underlying3 (hval 0 3 v0 rfl rfl) h0
  have bG := bounds_i64 wG
  obtain ⟨aV, cV, lV, rfl, wV⟩ := Read.ints_of (hval 1 42 v1 rfl rfl) h1
  obtain ⟨aW, cW, lW, rfl, wW⟩ := Read.ints_of (hval 2 42 v2 rfl rfl) h2
  clear hA0
  simp only [List.append_nil] at hW'
  refine (law G bG.1 bG.2 aV cV lV aW cW lW W wV wW).mono fun e W' ⟨he, hg⟩ => ?_
  subst he
  exact ⟨_, rfl, post_of_below (pv := []) hW' (fun _ _ _ => trodAll_cons_mk (shut_bool Try.underlying4 _) trodAll_mk0)
    (fun sp hs => trodAll_cons_mk (trod_keeps (t := 3) (by kernel_rfl) (by kernel_rfl) (by kernel_rfl) k0 hg (fun x hx => hW'.lt x (by simp_all)) (fun x hx => hs x (by simp_all))) (trodAll_cons_mk (trod_keeps (t := 42) (by kernel_rfl) (by kernel_rfl) (by kernel_rfl) k1 hg (fun x hx => hW'.lt x (by simp_all)) (fun x hx => hs x (by simp_all))) (trodAll_cons_mk (trod_keeps (t := 42) (by kernel_rfl) (by kernel_rfl) (by kernel_rfl) k2 hg (fun x hx => hW'.lt x (by simp_all)) (fun x hx => hs x (by simp_all))) (trodAll_mk0))))
    (fun _ _ => rfl) (by simp) hg (ok_one (by kernel_rfl) rfl (okWide_bool_mk Try.underlying4 _))⟩

theorem reads (os : Os) {H : Type} (enc : TypeId × Value → H) : ∃ places, DataW.whole enc Try.prog ((World.holding Try.prog os ⟨#[], #[], []⟩).forCall (fun _ _ => 0) ⟨#[], #[.int .i64 0, .slice none 0 0, .slice none 0 0], []⟩).memory Try.f11.params.toList Rows.fnExactCommuteInSpec.vars false (#[.int .i64 0, .slice none 0 0, .slice none 0 0] : Array Value).toList 8 = some ([.lit (.int .i64 0), .nil, .nil], [], places) :=
  ⟨[], by kernel_rfl⟩

set_option maxRecDepth 100000 in
theorem lifted (os : Os) (started : os.Started) (H : Type) (enc : TypeId × Value → H) (F : Stop.Interp) :
    ReturnsInHanded {} Try.checked os 11 .any ((OpenSpec.ofChange Rows.fnExactCommuteInSpec).preRow enc Try.prog Try.f11 Rows.fnExactCommuteInRow.domain false Rows.fnExactCommuteInRow.laid) (((OpenSpec.ofChange Rows.fnExactCommuteInSpec).at F).post enc Try.prog Try.f11 false true false false) := by
  obtain ⟨places, hx⟩ := reads os enc
  refine returnsInHanded_of_row (C := Try.checked) (s := OpenSpec.ofChange Rows.fnExactCommuteInSpec) Low.own started (by kernel_rfl) Try.func11
    (witness_row_at (enc := enc) (C := Try.checked) false (World.holding Try.prog os ⟨#[], #[], []⟩) #[.int .i64 0, .slice none 0 0, .slice none 0 0] rfl (by kernel_rfl) (by kernel_rfl) (by kernel_rfl)
      (OpenSpec.preRow_of_cond 8 hx (by kernel_rfl) (fun k hk => by cases hk) (by kernel_rfl) (laidMet_nil _ _))) ?_
  intro W base args ds gs before hval hW _ _ _ hL hShaped _
  exact contract H enc W base args ds gs before hval hW 

theorem said : Rows.FnExactCommuteInSaid :=
  OpenClaim.holds_of_cond 11 Try.f11 rfl rfl rfl rfl rfl rfl rfl ⟨rfl, rfl, rfl, rfl, rfl⟩ rfl rfl rfl rfl rfl (by kernel_rfl) Try.func11 (by kernel_rfl)
    (of_decide_eq_true (by kernel_rfl)) (by unfold Func.isWrapper; first | (rw [if_pos (by decide +kernel)]; kernel_rfl) | (rw [if_neg (by decide +kernel)]; exact ⟨rfl, rfl⟩))
    (fun os started H enc _ F => by rw [OpenClaim.pre_eq_preRow]; exact lifted os started H enc F)
end Go.Proofs.Ytfaagbmaekoogaa.fnExactCommuteIn
