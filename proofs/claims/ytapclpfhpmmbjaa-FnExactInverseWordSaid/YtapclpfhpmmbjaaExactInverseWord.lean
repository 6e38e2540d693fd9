/-
  At every argument the program's InverseWord returns what the model returns, writes into no argument, and its answer owns its memory.
-/
import Derived.Test.YtapclpfhpmmbjaaBase
import Derived.Test.YtapclpfhpmmbjaaLow
import Derived.Test.YtapclpfhpmmbjaaSlice
import Derived.Test.YtapclpfhpmmbjaaInts
import Derived.Test.YtapclpfhpmmbjaaReadInts
import Derived.Test.YtapclpfhpmmbjaaWord
import Derived.Test.YtapclpfhpmmbjaaIsWord
import Derived.Test.YtapclpfhpmmbjaaReduce
import Derived.Test.YtapclpfhpmmbjaaReduceSpec
import Derived.Test.YtapclpfhpmmbjaaIter
import Derived.Test.YtapclpfhpmmbjaaInvert
import Derived.Deep.DeepWitnessRowRef
import Derived.OpenShut
import Derived.Deep.DeepHandedRow
import Derived.LaidMore
namespace Go.Proofs.Ytapclpfhpmmbjaa.fnExactInverseWord
open Go.ChangeShapes Go.WideShapes Go.ChangeAt Go.RowKit Go.Sort
open Go.ChangeMaps (open_string)

set_option maxRecDepth 10000 in
set_option maxHeartbeats 2000000 in
theorem law (aW : Option Addr) (cW : Nat) (lW : List Int) (w : World) (hhW : RowAt w aW (intCells lW) ∧ lW.length ≤ maxLen ∧ I64s lW) :
    Calls Try.prog 7 #[.slice aW lW.length cW] w fun e w' => e = .returned (.bool true) ∧ Below w.heap.size w w' := by
  have hB0 := Below.refl w.heap.size w
  obtain ⟨hAW, hMW, hIW⟩ := hhW
  have hAW := Lib.hid hAW
  have hIW := Lib.hid hIW
  unfold maxLen at hMW
  by_cases hLW : lW.length ≤ 1048576
  · skip
    have hN0 := Lib.hid ((Nat.le_trans (inverse_len lW) (by decide)) : (Word.inverse lW).length ≤ 1000000)
    have c_spec := fun (aaW : Option Addr) (ccW : Nat) (W : World) (hrW : RowAt W aaW (intCells lW)) => spec_InverseWord aaW ccW lW W hrW hLW
    have c_impl := fun (aaW : Option Addr) (ccW : Nat) (W : World) (hrW : RowAt W aaW (intCells lW)) => impl_InverseWord aaW ccW lW W hrW hLW
    generalize hV0 : Word.inverse lW = R0 at *
    clear hV0
    have Hs := Lib.hid c_spec; have Hi := Lib.hid c_impl; clear c_spec c_impl
    go_enter Try.func7, Try.ntmps7
    have h2 := Lib.hid (hB0.size)
    go_wp2_with fail
    refine (toIntS aW cW lW w (hAW.out.below hB0) hLW).mono ?_
    rintro e w1 ⟨rfl, h3, h4⟩
    have h5 := Lib.hid (h3); clear h3
    have hB6 : Below w.heap.size w w1 := hB0.trans (h4.mono hB0.size)
    clear h4
    go_wp2_with fail
    refine (Hs.out (some ⟨w.heap.size, 0, none⟩) lW.length w1 h5.out.row).mono ?_
    rintro e w2 ⟨ra8, rc9, rfl, _, _, hf10, h7⟩
    have h11 := Lib.hid (hf10.row); clear hf10
    have hB12 : Below w.heap.size w w2 := hB6.trans (h7.mono hB6.size)
    have h13 := Lib.hid (h5.out.below h7 h5.out.lt); clear h5
    clear h7
    have h14 := Lib.hid (Below.refl w2.heap.size w2)
    clear h13
    have h15 := Lib.hid (hB12.size)
    have h16 := Lib.hid (h14.out.size)
    go_wp2_with fail
    refine (toIntS aW cW lW w2 (hAW.out.below hB12) hLW).mono ?_
    rintro e w3 ⟨rfl, h17, h18⟩
    have h19 := Lib.hid (h17); clear h17
    have hB20 : Below w.heap.size w w3 := hB12.trans (h18.mono hB12.size)
    have h21 := Lib.hid (h14.out.trans (h18.mono h14.out.size)); clear h14
    clear h18
    go_wp2_with fail
    refine (Hi.out (some ⟨w2.heap.size, 0, none⟩) lW.length w3 h19.out.row).mono ?_
    rintro e w4 ⟨ra23, rc24, rfl, _, _, hf25, h22⟩
    have h26 := Lib.hid (hf25); clear hf25
    have h27 := Lib.hid (h22.size)
    have h28 := Lib.hid (hB20.size)
    have h29 := Lib.hid (h21.out.size)
    have h30 := Lib.hid (h19.out.lt)
    have hB31 : Below w.heap.size w w4 := hB20.trans (h22.mono hB20.size)
    have h32 := Lib.hid (h21.out.trans (h22.mono h21.out.size)); clear h21
    have h33 := Lib.hid (h19.out.below h22 h19.out.lt); clear h19
    clear h22
    go_wp2_with fail
    refine (eqIntS ra23 ra8 rc24 rc9 R0 w4 h26.out.row (h11.out.below h32.out) (Nat.le_trans hN0.out (by decide))).mono ?_
    rintro e w5 ⟨rfl, h34⟩
    have hB35 : Below w.heap.size w w5 := hB31.trans (h34.mono hB31.size)
    have h36 := Lib.hid (h32.out.trans (h34.mono h32.out.size)); clear h32
    have h37 := Lib.hid (h33.out.below h34 h33.out.lt); clear h33
    have h38 := Lib.hid (h26.out.below h34); clear h26
    have h39 := Lib.hid (Nat.le_trans h27.out h34.size); clear h27
    clear h34
    have h41 := Lib.hid (hB35.size)
    have h42 := Lib.hid (h36.out.size)
    have h43 := Lib.hid (h37.out.lt)
    go_wp2_with fail
    refine (toIntS aW cW lW w5 (hAW.out.below hB35) hLW).mono ?_
    rintro e w6 ⟨rfl, h44, h45⟩
    have h46 := Lib.hid (h44); clear h44
    have hB47 : Below w.heap.size w w6 := hB35.trans (h45.mono hB35.size)
    have h48 := Lib.hid (h36.out.trans (h45.mono h36.out.size)); clear h36
    have h49 := Lib.hid (h37.out.below h45 h37.out.lt); clear h37
    have h50 := Lib.hid (h38.out.below h45); clear h38
    have h51 := Lib.hid (Nat.le_trans h39.out h45.size); clear h39
    clear h45
    go_wp2_with fail
    refine (eqIntS (some ⟨w2.heap.size, 0, none⟩) (some ⟨w5.heap.size, 0, none⟩) lW.length lW.length lW w6 h49.out.row h46.out.row (Nat.le_trans hLW (by decide))).mono ?_
    rintro e w7 ⟨rfl, h52⟩
    have hB53 : Below w.heap.size w w7 := hB47.trans (h52.mono hB47.size)
    have h54 := Lib.hid (h48.out.trans (h52.mono h48.out.size)); clear h48
    have h55 := Lib.hid (h49.out.below h52 h49.out.lt); clear h49
    have h56 := Lib.hid (h46.out.below h52 h46.out.lt); clear h46
    have h57 := Lib.hid (h50.out.below h52); clear h50
    have h58 := Lib.hid (Nat.le_trans h51.out h52.size); clear h51
    clear h52
    clear h56
    go_wp2_with fail
    refine (markIntS_blk w2.heap.size lW.length 1 lW w7 h55.out (by omega) (by omega)).mono ?_
    rintro e w8 ⟨rfl, h59⟩
    have hB60 : Below w.heap.size w w8 := below_of_only hB53 h59 h15.out
    have h61 := Lib.hid (below_of_only h54.out h59 h16.out); clear h54
    have h62 := Lib.hid (h57.out.keeps h59 (fun g e => by cases e; exact h30.out)); clear h57
    have h63 := Lib.hid (Nat.le_trans h58.out h59.size); clear h58
    clear h55 h59
    go_wp2_with fail
    refine (eqIntS ra23 ra8 rc24 rc9 R0 w8 h62.out.row (h11.out.below h61.out) (Nat.le_trans hN0.out (by decide))).mono ?_
    rintro e w9 ⟨rfl, h64⟩
    have hB65 : Below w.heap.size w w9 := hB60.trans (h64.mono hB60.size)
    have h66 := Lib.hid (h61.out.trans (h64.mono h61.out.size)); clear h61
    have h67 := Lib.hid (h62.out.below h64); clear h62
    have h68 := Lib.hid (Nat.le_trans h63.out h64.size); clear h63
    clear h64
    go_wp2_with fail
    refine (markIntS ra23 rc24 1 _ R0 w9 h67.out (by have := hN0.out; omega) (Nat.le_trans hN0.out (by decide)) h68.out).mono ?_
    rintro e w10 ⟨rfl, h69, h70, h71⟩
    clear h71 h67
    have hB72 : Below w.heap.size w w10 := hB65.trans (h70.mono h28.out)
    have h73 := Lib.hid (h66.out.trans (h70.mono h29.out)); clear h66
    have h74 := Lib.hid (h69); clear h69
    have h75 := Lib.hid (Nat.le_trans h68.out h70.size); clear h68
    clear h70
    go_wp2_with fail
    refine (heldIntS ra23 R0.length rc24 1 w10 h74.out.row (by have := hN0.out; omega) (Nat.le_trans hN0.out (by decide))).mono ?_
    rintro e w11 ⟨rfl, h76⟩
    have hB77 : Below w.heap.size w w11 := hB72.trans (h76.mono hB72.size)
    have h78 := Lib.hid (h73.out.trans (h76.mono h73.out.size)); clear h73
    have h79 := Lib.hid (h74.out.below h76); clear h74
    have h80 := Lib.hid (Nat.le_trans h75.out h76.size); clear h75
    clear h76
    have h82 := Lib.hid (hB77.size)
    have h83 := Lib.hid (h78.out.size)
    go_wp2_with fail
    refine (toIntS aW cW lW w11 (hAW.out.below hB77) hLW).mono ?_
    rintro e w12 ⟨rfl, h84, h85⟩
    have h86 := Lib.hid (h84); clear h84
    have hB87 : Below w.heap.size w w12 := hB77.trans (h85.mono hB77.size)
    have h88 := Lib.hid (h78.out.trans (h85.mono h78.out.size)); clear h78
    have h89 := Lib.hid (h79.out.below h85); clear h79
    have h90 := Lib.hid (Nat.le_trans h80.out h85.size); clear h80
    clear h85
    go_wp2_with fail
    refine (Hi.out (some ⟨w11.heap.size, 0, none⟩) lW.length w12 h86.out.row).mono ?_
    rintro e w13 ⟨ra92, rc93, rfl, _, _, hf94, h91⟩
    have h95 := Lib.hid (hf94); clear hf94
    have h96 := Lib.hid (h91.size)
    have h97 := Lib.hid (hB87.size)
    have h98 := Lib.hid (h88.out.size)
    have hB99 : Below w.heap.size w w13 := hB87.trans (h91.mono hB87.size)
    have h100 := Lib.hid (h88.out.trans (h91.mono h88.out.size)); clear h88
    have h101 := Lib.hid (h86.out.below h91 h86.out.lt); clear h86
    have h102 := Lib.hid (h89.out.below h91); clear h89
    have h103 := Lib.hid (Nat.le_trans h90.out h91.size); clear h90
    clear h91
    clear h101
    go_wp2_with fail
    refine (eqIntS ra92 ra8 rc93 rc9 R0 w13 h95.out.row (h11.out.below h100.out) (Nat.le_trans hN0.out (by decide))).mono ?_
    rintro e w14 ⟨rfl, h104⟩
    have hB105 : Below w.heap.size w w14 := hB99.trans (h104.mono hB99.size)
    have h106 := Lib.hid (h100.out.trans (h104.mono h100.out.size)); clear h100
    have h107 := Lib.hid (h102.out.below h104); clear h102
    have h108 := Lib.hid (Nat.le_trans h103.out h104.size); clear h103
    have h109 := Lib.hid (h95.out.below h104); clear h95
    have h110 := Lib.hid (Nat.le_trans h96.out h104.size); clear h96
    clear h104
    go_wp2_with fail
    refine (heldIntS ra23 R0.length rc24 1 w14 h107.out.row (by have := hN0.out; omega) (Nat.le_trans hN0.out (by decide))).mono ?_
    rintro e w15 ⟨rfl, h111⟩
    have hB112 : Below w.heap.size w w15 := hB105.trans (h111.mono hB105.size)
    have h113 := Lib.hid (h106.out.trans (h111.mono h106.out.size)); clear h106
    have h114 := Lib.hid (h107.out.below h111); clear h107
    have h115 := Lib.hid (Nat.le_trans h108.out h111.size); clear h108
    have h116 := Lib.hid (h109.out.below h111); clear h109
    have h117 := Lib.hid (Nat.le_trans h110.out h111.size); clear h110
    clear h111
    go_wp2
    go_ret
    exact ⟨rfl, hB112⟩
  · have hbig : 1048576 < lW.length := by omega
    go_enter Try.func7, Try.ntmps7
    go_wp2
    go_ret
    exact ⟨rfl, Below.refl _ _⟩

set_option maxRecDepth 100000 in
theorem contract (H : Type) (enc : TypeId × Value → H) (W : World) (base : Nat) (args : Array Value) (ds gs : List (DataW H)) (before : List MemPlace)
    (hval : ∀ (j : Nat) t v, Try.f7.params[j]? = some t → args[j]? = some v → Value.okWide Try.prog W .any base t v)
    (hW : DataW.Whole enc Try.prog Try.f7.params.toList Rows.fnExactInverseWordSpec.vars false W args.toList ds gs before) :
    Calls Try.prog 7 args W fun e W' => ∃ v, e = .returned v ∧ Rows.fnExactInverseWordSpec.post enc Try.prog Try.f7 false true false false W args v W' := by
  have hW' := hW
  obtain ⟨p, q, hA0, hV, rfl, hfz, hnd⟩ := hW
  have hA : DataW.TrodAll enc Try.prog W 0 (fun _ => true) true Try.f7.params.toList args.toList ds p := hA0
  rw [Try.params7] at hA hval
  obtain ⟨v0, vs0, d0, ds0, p0, q0, hargs, rfl, rfl, h0, r0⟩ := trodAll_cons hA
  obtain ⟨rfl, rfl, rfl⟩ := trodAll_nil r0
  obtain rfl : args = #[v0] := by cases args; simp_all
  obtain ⟨rfl, rfl⟩ := trodVars_none hV
  have k0 := h0
  obtain ⟨aW, cW, lW, rfl, wW⟩ := Read.ints_of (hval 0 24 v0 rfl rfl) h0
  clear hA0
  simp only [List.append_nil] at hW'
  refine (law aW cW lW W wW).mono fun e W' ⟨he, hg⟩ => ?_
  subst he
  exact ⟨_, rfl, post_of_below (pv := []) hW' (fun _ _ _ => trodAll_cons_mk (shut_bool Try.underlying4 _) trodAll_mk0)
    (fun sp hs => trodAll_cons_mk (trod_keeps (t := 24) (by kernel_rfl) (by kernel_rfl) (by kernel_rfl) k0 hg (fun x hx => hW'.lt x (by simp_all)) (fun x hx => hs x (by simp_all))) (trodAll_mk0))
    (fun _ _ => rfl) (by simp) hg (ok_one (by kernel_rfl) rfl (okWide_bool_mk Try.underlying4 _))⟩

theorem reads (os : Os) {H : Type} (enc : TypeId × Value → H) : ∃ places, DataW.whole enc Try.prog ((World.holding Try.prog os ⟨#[], #[], []⟩).forCall (fun _ _ => 0) ⟨#[], #[.slice none 0 0], []⟩).memory Try.f7.params.toList Rows.fnExactInverseWordSpec.vars false (#[.slice none 0 0] : Array Value).toList 8 = some ([.nil], [], places) :=
  ⟨[], by kernel_rfl⟩

set_option maxRecDepth 100000 in
theorem lifted (os : Os) (started : os.Started) (H : Type) (enc : TypeId × Value → H) (F : Stop.Interp) :
    ReturnsInHanded {} Try.checked os 7 .any ((OpenSpec.ofChange Rows.fnExactInverseWordSpec).preRow enc Try.prog Try.f7 Rows.fnExactInverseWordRow.domain false Rows.fnExactInverseWordRow.laid) (((OpenSpec.ofChange Rows.fnExactInverseWordSpec).at F).post enc Try.prog Try.f7 false true false false) := by
  obtain ⟨places, hx⟩ := reads os enc
  refine returnsInHanded_of_row (C := Try.checked) (s := OpenSpec.ofChange Rows.fnExactInverseWordSpec) Low.own started (by kernel_rfl) Try.func7
    (witness_row_at (enc := enc) (C := Try.checked) false (World.holding Try.prog os ⟨#[], #[], []⟩) #[.slice none 0 0] rfl (by kernel_rfl) (by kernel_rfl) (by kernel_rfl)
      (OpenSpec.preRow_of_cond 8 hx (by kernel_rfl) (fun k hk => by cases hk) (by kernel_rfl) (laidMet_nil _ _))) ?_
  intro W base args ds gs before hval hW _ _ _ hL hShaped _
  exact contract H enc W base args ds gs before hval hW 

theorem said : Rows.FnExactInverseWordSaid :=
  OpenClaim.holds_of_cond 7 Try.f7 rfl rfl rfl rfl rfl rfl rfl ⟨rfl, rfl, rfl, rfl, rfl⟩ rfl rfl rfl rfl rfl (by kernel_rfl) Try.func7 (by kernel_rfl)
    (of_decide_eq_true (by kernel_rfl)) (by unfold Func.isWrapper; first | (rw [if_pos (by decide +kernel)]; kernel_rfl) | (rw [if_neg (by decide +kernel)]; exact ⟨rfl, rfl⟩))
    (fun os started H enc _ F => by rw [OpenClaim.pre_eq_preRow]; exact lifted os started H enc F)
end Go.Proofs.Ytapclpfhpmmbjaa.fnExactInverseWord
