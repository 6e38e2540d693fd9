/-
  At every argument the program's AreConjugate returns what the model returns, writes into no argument, and its answer owns its memory.
-/
import Derived.Test.YtapclpfhpmmbjaaBase
import Derived.Test.YtapclpfhpmmbjaaLow
import Derived.Test.YtapclpfhpmmbjaaSlice
import Derived.Test.YtapclpfhpmmbjaaInts
import Derived.Test.YtapclpfhpmmbjaaReadInts
import Derived.Test.YtapclpfhpmmbjaaWord
import Derived.Test.YtapclpfhpmmbjaaIsWord
import Derived.Test.YtapclpfhpmmbjaaReduce
import Derived.Test.YtapclpfhpmmbjaaReduceSpec
import Derived.Test.YtapclpfhpmmbjaaAppend
import Derived.Test.YtapclpfhpmmbjaaCore
import Derived.Test.YtapclpfhpmmbjaaConcat
import Derived.Test.YtapclpfhpmmbjaaTurn
import Derived.Test.YtapclpfhpmmbjaaConj
import Derived.Deep.DeepWitnessRowRef
import Derived.OpenShut
import Derived.Deep.DeepHandedRow
import Derived.LaidMore
namespace Go.Proofs.Ytapclpfhpmmbjaa.fnExactAreConjugate
open Go.ChangeShapes Go.WideShapes Go.ChangeAt Go.RowKit Go.Sort
open Go.ChangeMaps (open_string)

set_option maxRecDepth 10000 in
set_option maxHeartbeats 2000000 in
theorem law (aV : Option Addr) (cV : Nat) (lV : List Int) (aW : Option Addr) (cW : Nat) (lW : List Int) (w : World) (hhV : RowAt w aV (intCells lV) ∧ lV.length ≤ maxLen ∧ I64s lV) (hhW : RowAt w aW (intCells lW) ∧ lW.length ≤ maxLen ∧ I64s lW) :
    Calls Try.prog 11 #[.slice aV lV.length cV, .slice aW lW.length cW] w fun e w' => e = .returned (.bool true) ∧ Below w.heap.size w w' := by
  have hB0 := Below.refl w.heap.size w
  obtain ⟨hAV, hMV, hIV⟩ := hhV
  have hAV := Lib.hid hAV
  have hIV := Lib.hid hIV
  unfold maxLen at hMV
  obtain ⟨hAW, hMW, hIW⟩ := hhW
  have hAW := Lib.hid hAW
  have hIW := Lib.hid hIW
  unfold maxLen at hMW
  by_cases hLV : lV.length ≤ 1048576
  · skip
    by_cases hLW : lW.length ≤ 1048576
    · skip
      have c_spec := fun (aaV : Option Addr) (ccV : Nat) (aaW : Option Addr) (ccW : Nat) (W : World) (hrV : RowAt W aaV (intCells lV)) (hrW : RowAt W aaW (intCells lW)) => spec_AreConjugate aaV ccV lV aaW ccW lW W hrV hLV hrW hLW
      have c_impl := fun (aaV : Option Addr) (ccV : Nat) (aaW : Option Addr) (ccW : Nat) (W : World) (hrV : RowAt W aaV (intCells lV)) (hrW : RowAt W aaW (intCells lW)) => impl_AreConjugate aaV ccV lV aaW ccW lW W hrV hLV hrW hLW
      generalize hV0 : (conjB lV lW) = S0 at *
      clear hV0
      have Hs := Lib.hid c_spec; have Hi := Lib.hid c_impl; clear c_spec c_impl
      go_enter Try.func11, Try.ntmps11
      have h2 := Lib.hid (hB0.size)
      go_wp2_with fail
      refine (toIntS aV cV lV w (hAV.out.below hB0) hLV).mono ?_
      rintro e w1 ⟨rfl, h3, h4⟩
      have h5 := Lib.hid (h3); clear h3
      have hB6 : Below w.heap.size w w1 := hB0.trans (h4.mono hB0.size)
      clear h4
      have h8 := Lib.hid (hB6.size)
      have h9 := Lib.hid (h5.out.lt)
      go_wp2_with fail
      refine (toIntS aW cW lW w1 (hAW.out.below hB6) hLW).mono ?_
      rintro e w2 ⟨rfl, h10, h11⟩
      have h12 := Lib.hid (h10); clear h10
      have hB13 : Below w.heap.size w w2 := hB6.trans (h11.mono hB6.size)
      have h14 := Lib.hid (h5.out.below h11 h5.out.lt); clear h5
      clear h11
      go_wp2_with fail
      refine (Hs.out (some ⟨w.heap.size, 0, none⟩) lV.length (some ⟨w1.heap.size, 0, none⟩) lW.length w2 h14.out.row h12.out.row).mono ?_
      rintro e w3 ⟨rfl, h15⟩
      have hB16 : Below w.heap.size w w3 := hB13.trans (h15.mono hB13.size)
      have h17 := Lib.hid (h14.out.below h15 h14.out.lt); clear h14
      have h18 := Lib.hid (h12.out.below h15 h12.out.lt); clear h12
      clear h15
      clear h17
      clear h18
      have h19 := Lib.hid (hB16.size)
      go_wp2_with fail
      refine (toIntS aV cV lV w3 (hAV.out.below hB16) hLV).mono ?_
      rintro e w4 ⟨rfl, h20, h21⟩
      have h22 := Lib.hid (h20); clear h20
      have hB23 : Below w.heap.size w w4 := hB16.trans (h21.mono hB16.size)
      clear h21
      have h24 := Lib.hid (hB23.size)
      have h25 := Lib.hid (h22.out.lt)
      go_wp2_with fail
      refine (toIntS aW cW lW w4 (hAW.out.below hB23) hLW).mono ?_
      rintro e w5 ⟨rfl, h26, h27⟩
      have h28 := Lib.hid (h26); clear h26
      have hB29 : Below w.heap.size w w5 := hB23.trans (h27.mono hB23.size)
      have h30 := Lib.hid (h22.out.below h27 h22.out.lt); clear h22
      clear h27
      go_wp2_with fail
      refine (Hi.out (some ⟨w3.heap.size, 0, none⟩) lV.length (some ⟨w4.heap.size, 0, none⟩) lW.length w5 h30.out.row h28.out.row).mono ?_
      rintro e w6 ⟨rfl, h31⟩
      have hB32 : Below w.heap.size w w6 := hB29.trans (h31.mono hB29.size)
      have h33 := Lib.hid (h30.out.below h31 h30.out.lt); clear h30
      have h34 := Lib.hid (h28.out.below h31 h28.out.lt); clear h28
      clear h31
      have h36 := Lib.hid (hB32.size)
      have h37 := Lib.hid (h33.out.lt)
      have h38 := Lib.hid (h34.out.lt)
      go_wp2_with fail
      refine (toIntS aV cV lV w6 (hAV.out.below hB32) hLV).mono ?_
      rintro e w7 ⟨rfl, h39, h40⟩
      have h41 := Lib.hid (h39); clear h39
      have hB42 : Below w.heap.size w w7 := hB32.trans (h40.mono hB32.size)
      have h43 := Lib.hid (h33.out.below h40 h33.out.lt); clear h33
      have h44 := Lib.hid (h34.out.below h40 h34.out.lt); clear h34
      clear h40
      go_wp2_with fail
      refine (eqIntS (some ⟨w3.heap.size, 0, none⟩) (some ⟨w6.heap.size, 0, none⟩) lV.length lV.length lV w7 h43.out.row h41.out.row (Nat.le_trans hLV (by decide))).mono ?_
      rintro e w8 ⟨rfl, h45⟩
      have hB46 : Below w.heap.size w w8 := hB42.trans (h45.mono hB42.size)
      have h47 := Lib.hid (h43.out.below h45 h43.out.lt); clear h43
      have h48 := Lib.hid (h44.out.below h45 h44.out.lt); clear h44
      have h49 := Lib.hid (h41.out.below h45 h41.out.lt); clear h41
      clear h45
      clear h49
      have h51 := Lib.hid (hB46.size)
      have h52 := Lib.hid (h47.out.lt)
      have h53 := Lib.hid (h48.out.lt)
      go_wp2_with fail
      refine (toIntS aW cW lW w8 (hAW.out.below hB46) hLW).mono ?_
      rintro e w9 ⟨rfl, h54, h55⟩
      have h56 := Lib.hid (h54); clear h54
      have hB57 : Below w.heap.size w w9 := hB46.trans (h55.mono hB46.size)
      have h58 := Lib.hid (h47.out.below h55 h47.out.lt); clear h47
      have h59 := Lib.hid (h48.out.below h55 h48.out.lt); clear h48
      clear h55
      go_wp2_with fail
      refine (eqIntS (some ⟨w4.heap.size, 0, none⟩) (some ⟨w8.heap.size, 0, none⟩) lW.length lW.length lW w9 h59.out.row h56.out.row (Nat.le_trans hLW (by decide))).mono ?_
      rintro e w10 ⟨rfl, h60⟩
      have hB61 : Below w.heap.size w w10 := hB57.trans (h60.mono hB57.size)
      have h62 := Lib.hid (h58.out.below h60 h58.out.lt); clear h58
      have h63 := Lib.hid (h59.out.below h60 h59.out.lt); clear h59
      have h64 := Lib.hid (h56.out.below h60 h56.out.lt); clear h56
      clear h60
      clear h64
      go_wp2
      go_ret
      exact ⟨rfl, hB61⟩
    · have hbig : 1048576 < lW.length := by omega
      go_enter Try.func11, Try.ntmps11
      go_wp2
      go_ret
      exact ⟨rfl, Below.refl _ _⟩
  · have hbig : 1048576 < lV.length := by omega
    go_enter Try.func11, Try.ntmps11
    go_wp2
    go_ret
    exact ⟨rfl, Below.refl _ _⟩

set_option maxRecDepth 100000 in
theorem contract (H : Type) (enc : TypeId × Value → H) (W : World) (base : Nat) (args : Array Value) (ds gs : List (DataW H)) (before : List MemPlace)
    (hval : ∀ (j : Nat) t v, Try.f11.params[j]? = some t → args[j]? = some v → Value.okWide Try.prog W .any base t v)
    (hW : DataW.Whole enc Try.prog Try.f11.params.toList Rows.fnExactAreConjugateSpec.vars false W args.toList ds gs before) :
    Calls Try.prog 11 args W fun e W' => ∃ v, e = .returned v ∧ Rows.fnExactAreConjugateSpec.post enc Try.prog Try.f11 false true false false W args v W' := by
  have hW' := hW
  obtain ⟨p, q, hA0, hV, rfl, hfz, hnd⟩ := hW
  have hA : DataW.TrodAll enc Try.prog W 0 (fun _ => true) true Try.f11.params.toList args.toList ds p := hA0
  rw [Try.params11] at hA hval
  obtain ⟨v0, vs0, d0, ds0, p0, q0, hargs, rfl, rfl, h0, r0⟩ := trodAll_cons hA
  obtain ⟨v1, vs1, d1, ds1, p1, q1, rfl, rfl, rfl, h1, r1⟩ := trodAll_cons r0
  obtain ⟨rfl, rfl, rfl⟩ := trodAll_nil r1
  obtain rfl : args = #[v0, v1] := by cases args; simp_all
  obtain ⟨rfl, rfl⟩ := trodVars_none hV
  have k0 := h0
  have k1 := h1
  obtain ⟨aV, cV, lV, rfl, wV⟩ := Read.ints_of (hval 0 24 v0 rfl rfl) h0
  obtain ⟨aW, cW, lW, rfl, wW⟩ := Read.ints_of (hval 1 24 v1 rfl rfl) h1
  clear hA0
  simp only [List.append_nil] at hW'
  refine (law aV cV lV aW cW lW W wV wW).mono fun e W' ⟨he, hg⟩ => ?_
  subst he
  exact ⟨_, rfl, post_of_below (pv := []) hW' (fun _ _ _ => trodAll_cons_mk (shut_bool Try.underlying4 _) trodAll_mk0)
    (fun sp hs => trodAll_cons_mk (trod_keeps (t := 24) (by kernel_rfl) (by kernel_rfl) (by kernel_rfl) k0 hg (fun x hx => hW'.lt x (by simp_all)) (fun x hx => hs x (by simp_all))) (trodAll_cons_mk (trod_keeps (t := 24) (by kernel_rfl) (by kernel_rfl) (by kernel_rfl) k1 hg (fun x hx => hW'.lt x (by simp_all)) (fun x hx => hs x (by simp_all))) (trodAll_mk0)))
    (fun _ _ => rfl) (by simp) hg (ok_one (by kernel_rfl) rfl (okWide_bool_mk Try.underlying4 _))⟩

theorem reads (os : Os) {H : Type} (enc : TypeId × Value → H) : ∃ places, DataW.whole enc Try.prog ((World.holding Try.prog os ⟨#[], #[], []⟩).forCall (fun _ _ => 0) ⟨#[], #[.slice none 0 0, .slice none 0 0], []⟩).memory Try.f11.params.toList Rows.fnExactAreConjugateSpec.vars false (#[.slice none 0 0, .slice none 0 0] : Array Value).toList 8 = some ([.nil, .nil], [], places) :=
  ⟨[], by kernel_rfl⟩

set_option maxRecDepth 100000 in
theorem lifted (os : Os) (started : os.Started) (H : Type) (enc : TypeId × Value → H) (F : Stop.Interp) :
    ReturnsInHanded {} Try.checked os 11 .any ((OpenSpec.ofChange Rows.fnExactAreConjugateSpec).preRow enc Try.prog Try.f11 Rows.fnExactAreConjugateRow.domain false Rows.fnExactAreConjugateRow.laid) (((OpenSpec.ofChange Rows.fnExactAreConjugateSpec).at F).post enc Try.prog Try.f11 false true false false) := by
  obtain ⟨places, hx⟩ := reads os enc
  refine returnsInHanded_of_row (C := Try.checked) (s := OpenSpec.ofChange Rows.fnExactAreConjugateSpec) Low.own started (by kernel_rfl) Try.func11
    (witness_row_at (enc := enc) (C := Try.checked) false (World.holding Try.prog os ⟨#[], #[], []⟩) #[.slice none 0 0, .slice none 0 0] rfl (by kernel_rfl) (by kernel_rfl) (by kernel_rfl)
      (OpenSpec.preRow_of_cond 8 hx (by kernel_rfl) (fun k hk => by cases hk) (by kernel_rfl) (laidMet_nil _ _))) ?_
  intro W base args ds gs before hval hW _ _ _ hL hShaped _
  exact contract H enc W base args ds gs before hval hW 

theorem said : Rows.FnExactAreConjugateSaid :=
  OpenClaim.holds_of_cond 11 Try.f11 rfl rfl rfl rfl rfl rfl rfl ⟨rfl, rfl, rfl, rfl, rfl⟩ rfl rfl rfl rfl rfl (by kernel_rfl) Try.func11 (by kernel_rfl)
    (of_decide_eq_true (by kernel_rfl)) (by unfold Func.isWrapper; first | (rw [if_pos (by decide +kernel)]; kernel_rfl) | (rw [if_neg (by decide +kernel)]; exact ⟨rfl, rfl⟩))
    (fun os started H enc _ F => by rw [OpenClaim.pre_eq_preRow]; exact lifted os started H enc F)
end Go.Proofs.Ytapclpfhpmmbjaa.fnExactAreConjugate
