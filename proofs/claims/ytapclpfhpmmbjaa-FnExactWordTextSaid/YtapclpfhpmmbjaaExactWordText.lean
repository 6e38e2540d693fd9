/-
  At every argument the program's WordText returns what the model returns, writes into no argument, and its answer owns its memory.
-/
import Derived.Test.YtapclpfhpmmbjaaBase
import Derived.Test.YtapclpfhpmmbjaaLow
import Derived.Test.YtapclpfhpmmbjaaSlice
import Derived.Test.YtapclpfhpmmbjaaInts
import Derived.Test.YtapclpfhpmmbjaaReadInts
import Derived.Test.YtapclpfhpmmbjaaWord
import Derived.Test.YtapclpfhpmmbjaaIsWord
import Derived.Test.YtapclpfhpmmbjaaBytes
import Derived.Test.YtapclpfhpmmbjaaWordText
import Derived.Deep.DeepWitnessRowRef
import Derived.OpenShut
import Derived.Deep.DeepHandedRow
import Derived.LaidMore
namespace Go.Proofs.Ytapclpfhpmmbjaa.fnExactWordText
open Go.ChangeShapes Go.WideShapes Go.ChangeAt Go.RowKit Go.Sort
open Go.ChangeMaps (open_string)

set_option maxRecDepth 10000 in
set_option maxHeartbeats 2000000 in
theorem law (aW : Option Addr) (cW : Nat) (lW : List Int) (w : World) (hhW : RowAt w aW (intCells lW) ∧ lW.length ≤ maxLen ∧ I64s lW) :
    Calls Try.prog 5 #[.slice aW lW.length cW] w fun e w' => e = .returned (.bool true) ∧ Below w.heap.size w w' := by
  have hB0 := Below.refl w.heap.size w
  obtain ⟨hAW, hMW, hIW⟩ := hhW
  have hAW := Lib.hid hAW
  have hIW := Lib.hid hIW
  unfold maxLen at hMW
  by_cases hLW : lW.length ≤ 1048576
  · skip
    have c_spec := fun (aaW : Option Addr) (ccW : Nat) (W : World) (hrW : RowAt W aaW (intCells lW)) => spec_WordText aaW ccW lW W hrW hLW
    have c_impl := fun (aaW : Option Addr) (ccW : Nat) (W : World) (hrW : RowAt W aaW (intCells lW)) => impl_WordText aaW ccW lW W hrW hLW
    generalize hV0 : (ByteArray.mk (Word.said lW).toArray) = S0 at *
    clear hV0
    have Hs := Lib.hid c_spec; have Hi := Lib.hid c_impl; clear c_spec c_impl
    go_enter Try.func5, Try.ntmps5
    have h2 := Lib.hid (hB0.size)
    go_wp2_with fail
    refine (toIntS aW cW lW w (hAW.out.below hB0) hLW).mono ?_
    rintro e w1 ⟨rfl, h3, h4⟩
    have h5 := Lib.hid (h3); clear h3
    have hB6 : Below w.heap.size w w1 := hB0.trans (h4.mono hB0.size)
    clear h4
    go_wp2_with fail
    refine (Hs.out (some ⟨w.heap.size, 0, none⟩) lW.length w1 h5.out.row).mono ?_
    rintro e w2 ⟨rfl, h7⟩
    have hB8 : Below w.heap.size w w2 := hB6.trans (h7.mono hB6.size)
    have h9 := Lib.hid (h5.out.below h7 h5.out.lt); clear h5
    clear h7
    clear h9
    have h10 := Lib.hid (hB8.size)
    go_wp2_with fail
    refine (toIntS aW cW lW w2 (hAW.out.below hB8) hLW).mono ?_
    rintro e w3 ⟨rfl, h11, h12⟩
    have h13 := Lib.hid (h11); clear h11
    have hB14 : Below w.heap.size w w3 := hB8.trans (h12.mono hB8.size)
    clear h12
    go_wp2_with fail
    refine (Hi.out (some ⟨w2.heap.size, 0, none⟩) lW.length w3 h13.out.row).mono ?_
    rintro e w4 ⟨rfl, h15⟩
    have hB16 : Below w.heap.size w w4 := hB14.trans (h15.mono hB14.size)
    have h17 := Lib.hid (h13.out.below h15 h13.out.lt); clear h13
    clear h15
    have h19 := Lib.hid (hB16.size)
    have h20 := Lib.hid (h17.out.lt)
    go_wp2_with fail
    refine (toIntS aW cW lW w4 (hAW.out.below hB16) hLW).mono ?_
    rintro e w5 ⟨rfl, h21, h22⟩
    have h23 := Lib.hid (h21); clear h21
    have hB24 : Below w.heap.size w w5 := hB16.trans (h22.mono hB16.size)
    have h25 := Lib.hid (h17.out.below h22 h17.out.lt); clear h17
    clear h22
    go_wp2_with fail
    refine (eqIntS (some ⟨w2.heap.size, 0, none⟩) (some ⟨w4.heap.size, 0, none⟩) lW.length lW.length lW w5 h25.out.row h23.out.row (Nat.le_trans hLW (by decide))).mono ?_
    rintro e w6 ⟨rfl, h26⟩
    have hB27 : Below w.heap.size w w6 := hB24.trans (h26.mono hB24.size)
    have h28 := Lib.hid (h25.out.below h26 h25.out.lt); clear h25
    have h29 := Lib.hid (h23.out.below h26 h23.out.lt); clear h23
    clear h26
    clear h29
    go_wp2
    go_ret
    exact ⟨rfl, hB27⟩
  · have hbig : 1048576 < lW.length := by omega
    go_enter Try.func5, Try.ntmps5
    go_wp2
    go_ret
    exact ⟨rfl, Below.refl _ _⟩

set_option maxRecDepth 100000 in
theorem contract (H : Type) (enc : TypeId × Value → H) (W : World) (base : Nat) (args : Array Value) (ds gs : List (DataW H)) (before : List MemPlace)
    (hval : ∀ (j : Nat) t v, Try.f5.params[j]? = some t → args[j]? = some v → Value.okWide Try.prog W .any base t v)
    (hW : DataW.Whole enc Try.prog Try.f5.params.toList Rows.fnExactWordTextSpec.vars false W args.toList ds gs before) :
    Calls Try.prog 5 args W fun e W' => ∃ v, e = .returned v ∧ Rows.fnExactWordTextSpec.post enc Try.prog Try.f5 false true false false W args v W' := by
  have hW' := hW
  obtain ⟨p, q, hA0, hV, rfl, hfz, hnd⟩ := hW
  have hA : DataW.TrodAll enc Try.prog W 0 (fun _ => true) true Try.f5.params.toList args.toList ds p := hA0
  rw [Try.params5] at hA hval
  obtain ⟨v0, vs0, d0, ds0, p0, q0, hargs, rfl, rfl, h0, r0⟩ := trodAll_cons hA
  obtain ⟨rfl, rfl, rfl⟩ := trodAll_nil r0
  obtain rfl : args = #[v0] := by cases args; simp_all
  obtain ⟨rfl, rfl⟩ := trodVars_none hV
  have k0 := h0
  obtain ⟨aW, cW, lW, rfl, wW⟩ := Read.ints_of (hval 0 24 v0 rfl rfl) h0
  clear hA0
  simp only [List.append_nil] at hW'
  refine (law aW cW lW W wW).mono fun e W' ⟨he, hg⟩ => ?_
  subst he
  exact ⟨_, rfl, post_of_below (pv := []) hW' (fun _ _ _ => trodAll_cons_mk (shut_bool Try.underlying4 _) trodAll_mk0)
    (fun sp hs => trodAll_cons_mk (trod_keeps (t := 24) (by kernel_rfl) (by kernel_rfl) (by kernel_rfl) k0 hg (fun x hx => hW'.lt x (by simp_all)) (fun x hx => hs x (by simp_all))) (trodAll_mk0))
    (fun _ _ => rfl) (by simp) hg (ok_one (by kernel_rfl) rfl (okWide_bool_mk Try.underlying4 _))⟩

theorem reads (os : Os) {H : Type} (enc : TypeId × Value → H) : ∃ places, DataW.whole enc Try.prog ((World.holding Try.prog os ⟨#[], #[], []⟩).forCall (fun _ _ => 0) ⟨#[], #[.slice none 0 0], []⟩).memory Try.f5.params.toList Rows.fnExactWordTextSpec.vars false (#[.slice none 0 0] : Array Value).toList 8 = some ([.nil], [], places) :=
  ⟨[], by kernel_rfl⟩

set_option maxRecDepth 100000 in
theorem lifted (os : Os) (started : os.Started) (H : Type) (enc : TypeId × Value → H) (F : Stop.Interp) :
    ReturnsInHanded {} Try.checked os 5 .any ((OpenSpec.ofChange Rows.fnExactWordTextSpec).preRow enc Try.prog Try.f5 Rows.fnExactWordTextRow.domain false Rows.fnExactWordTextRow.laid) (((OpenSpec.ofChange Rows.fnExactWordTextSpec).at F).post enc Try.prog Try.f5 false true false false) := by
  obtain ⟨places, hx⟩ := reads os enc
  refine returnsInHanded_of_row (C := Try.checked) (s := OpenSpec.ofChange Rows.fnExactWordTextSpec) Low.own started (by kernel_rfl) Try.func5
    (witness_row_at (enc := enc) (C := Try.checked) false (World.holding Try.prog os ⟨#[], #[], []⟩) #[.slice none 0 0] rfl (by kernel_rfl) (by kernel_rfl) (by kernel_rfl)
      (OpenSpec.preRow_of_cond 8 hx (by kernel_rfl) (fun k hk => by cases hk) (by kernel_rfl) (laidMet_nil _ _))) ?_
  intro W base args ds gs before hval hW _ _ _ hL hShaped _
  exact contract H enc W base args ds gs before hval hW 

theorem said : Rows.FnExactWordTextSaid :=
  OpenClaim.holds_of_cond 5 Try.f5 rfl rfl rfl rfl rfl rfl rfl ⟨rfl, rfl, rfl, rfl, rfl⟩ rfl rfl rfl rfl rfl (by kernel_rfl) Try.func5 (by kernel_rfl)
    (of_decide_eq_true (by kernel_rfl)) (by unfold Func.isWrapper; first | (rw [if_pos (by decide +kernel)]; kernel_rfl) | (rw [if_neg (by decide +kernel)]; exact ⟨rfl, rfl⟩))
    (fun os started H enc _ F => by rw [OpenClaim.pre_eq_preRow]; exact lifted os started H enc F)
end Go.Proofs.Ytapclpfhpmmbjaa.fnExactWordText
