/-
  At every argument the program's ParseWord returns what the model returns, writes into no argument, and its answer owns its memory.
-/
import Derived.Test.YtapclpfhpmmbjaaBase
import Derived.Test.YtapclpfhpmmbjaaLow
import Derived.Test.YtapclpfhpmmbjaaSlice
import Derived.Test.YtapclpfhpmmbjaaInts
import Derived.Test.YtapclpfhpmmbjaaWord
import Derived.Test.YtapclpfhpmmbjaaReduce
import Derived.Test.YtapclpfhpmmbjaaReduceSpec
import Derived.Test.YtapclpfhpmmbjaaIter
import Derived.Test.YtapclpfhpmmbjaaProd
import Derived.Test.YtapclpfhpmmbjaaParseWord
import Derived.Test.YtapclpfhpmmbjaaParseImpl
import Derived.Deep.DeepWitnessRowRef
import Derived.OpenShut
import Derived.Deep.DeepHandedRow
import Derived.LaidMore
namespace Go.Proofs.Ytapclpfhpmmbjaa.fnExactParseWord
open Go.ChangeShapes Go.WideShapes Go.ChangeAt Go.RowKit Go.Sort
open Go.ChangeMaps (open_string)

set_option maxRecDepth 10000 in
set_option maxHeartbeats 2000000 in
theorem law (vText : ByteArray) (hText : vText.size ≤ maxLen) (w : World)  :
    Calls Try.prog 6 #[.string vText] w fun e w' => e = .returned (.bool true) ∧ Below w.heap.size w w' := by
  have hB0 := Below.refl w.heap.size w
  unfold maxLen at hText
  by_cases hLText : vText.size ≤ 1048576
  · skip
    have hN0 := Lib.hid ((Nat.le_trans (Word.parsed_len _) (by decide)) : (Word.parsed vText.data.toList).length ≤ 1000000)
    have c_spec := fun  (W : World)  => spec_ParseWord vText W hLText
    have c_impl := fun  (W : World)  => impl_ParseWord vText W hLText
    generalize hV0 : Word.parsed vText.data.toList = R0 at *
    clear hV0
    generalize hV1 : (decide (Word.Parses vText.data.toList)) = S1 at *
    clear hV1
    have Hs := Lib.hid c_spec; have Hi := Lib.hid c_impl; clear c_spec c_impl
    go_enter Try.func6, Try.ntmps6
    go_wp2_with fail
    refine (Hs.out  w ).mono ?_
    rintro e w1 ⟨ra2, rc3, rfl, _, _, hf4, h1⟩
    have h5 := Lib.hid (hf4.row); clear hf4
    have hB6 : Below w.heap.size w w1 := hB0.trans (h1.mono hB0.size)
    clear h1
    have h7 := Lib.hid (Below.refl w1.heap.size w1)
    go_wp2_with fail
    refine (Hi.out  w1 ).mono ?_
    rintro e w2 ⟨ra9, rc10, rfl, _, _, hf11, h8⟩
    have h12 := Lib.hid (hf11); clear hf11
    have h13 := Lib.hid (h8.size)
    have h14 := Lib.hid (hB6.size)
    have h15 := Lib.hid (h7.out.size)
    have hB16 : Below w.heap.size w w2 := hB6.trans (h8.mono hB6.size)
    have h17 := Lib.hid (h7.out.trans (h8.mono h7.out.size)); clear h7
    clear h8
    go_wp2_with fail
    refine (eqIntS ra9 ra2 rc10 rc3 R0 w2 h12.out.row (h5.out.below h17.out) (Nat.le_trans hN0.out (by decide))).mono ?_
    rintro e w3 ⟨rfl, h18⟩
    have hB19 : Below w.heap.size w w3 := hB16.trans (h18.mono hB16.size)
    have h20 := Lib.hid (h17.out.trans (h18.mono h17.out.size)); clear h17
    have h21 := Lib.hid (h12.out.below h18); clear h12
    have h22 := Lib.hid (Nat.le_trans h13.out h18.size); clear h13
    clear h18
    go_wp2_with fail
    refine (markIntS ra9 rc10 1 _ R0 w3 h21.out (by have := hN0.out; omega) (Nat.le_trans hN0.out (by decide)) h22.out).mono ?_
    rintro e w4 ⟨rfl, h23, h24, h25⟩
    clear h25 h21
    have hB26 : Below w.heap.size w w4 := hB19.trans (h24.mono h14.out)
    have h27 := Lib.hid (h20.out.trans (h24.mono h15.out)); clear h20
    have h28 := Lib.hid (h23); clear h23
    have h29 := Lib.hid (Nat.le_trans h22.out h24.size); clear h22
    clear h24
    go_wp2_with fail
    refine (heldIntS ra9 R0.length rc10 1 w4 h28.out.row (by have := hN0.out; omega) (Nat.le_trans hN0.out (by decide))).mono ?_
    rintro e w5 ⟨rfl, h30⟩
    have hB31 : Below w.heap.size w w5 := hB26.trans (h30.mono hB26.size)
    have h32 := Lib.hid (h27.out.trans (h30.mono h27.out.size)); clear h27
    have h33 := Lib.hid (h28.out.below h30); clear h28
    have h34 := Lib.hid (Nat.le_trans h29.out h30.size); clear h29
    clear h30
    go_wp2_with fail
    refine (Hi.out  w5 ).mono ?_
    rintro e w6 ⟨ra36, rc37, rfl, _, _, hf38, h35⟩
    have h39 := Lib.hid (hf38); clear hf38
    have h40 := Lib.hid (h35.size)
    have h41 := Lib.hid (hB31.size)
    have h42 := Lib.hid (h32.out.size)
    have hB43 : Below w.heap.size w w6 := hB31.trans (h35.mono hB31.size)
    have h44 := Lib.hid (h32.out.trans (h35.mono h32.out.size)); clear h32
    have h45 := Lib.hid (h33.out.below h35); clear h33
    have h46 := Lib.hid (Nat.le_trans h34.out h35.size); clear h34
    clear h35
    go_wp2_with fail
    refine (eqIntS ra36 ra2 rc37 rc3 R0 w6 h39.out.row (h5.out.below h44.out) (Nat.le_trans hN0.out (by decide))).mono ?_
    rintro e w7 ⟨rfl, h47⟩
    have hB48 : Below w.heap.size w w7 := hB43.trans (h47.mono hB43.size)
    have h49 := Lib.hid (h44.out.trans (h47.mono h44.out.size)); clear h44
    have h50 := Lib.hid (h45.out.below h47); clear h45
    have h51 := Lib.hid (Nat.le_trans h46.out h47.size); clear h46
    have h52 := Lib.hid (h39.out.below h47); clear h39
    have h53 := Lib.hid (Nat.le_trans h40.out h47.size); clear h40
    clear h47
    go_wp2_with fail
    refine (heldIntS ra9 R0.length rc10 1 w7 h50.out.row (by have := hN0.out; omega) (Nat.le_trans hN0.out (by decide))).mono ?_
    rintro e w8 ⟨rfl, h54⟩
    have hB55 : Below w.heap.size w w8 := hB48.trans (h54.mono hB48.size)
    have h56 := Lib.hid (h49.out.trans (h54.mono h49.out.size)); clear h49
    have h57 := Lib.hid (h50.out.below h54); clear h50
    have h58 := Lib.hid (Nat.le_trans h51.out h54.size); clear h51
    have h59 := Lib.hid (h52.out.below h54); clear h52
    have h60 := Lib.hid (Nat.le_trans h53.out h54.size); clear h53
    clear h54
    go_wp2
    go_ret
    exact ⟨rfl, hB55⟩
  · have hbig : 1048576 < vText.size := by omega
    go_enter Try.func6, Try.ntmps6
    go_wp2
    go_ret
    exact ⟨rfl, Below.refl _ _⟩

set_option maxRecDepth 100000 in
theorem contract (H : Type) (enc : TypeId × Value → H) (W : World) (base : Nat) (args : Array Value) (ds gs : List (DataW H)) (before : List MemPlace)
    (hval : ∀ (j : Nat) t v, Try.f6.params[j]? = some t → args[j]? = some v → Value.okWide Try.prog W .any base t v)
    (hW : DataW.Whole enc Try.prog Try.f6.params.toList Rows.fnExactParseWordSpec.vars false W args.toList ds gs before) :
    Calls Try.prog 6 args W fun e W' => ∃ v, e = .returned v ∧ Rows.fnExactParseWordSpec.post enc Try.prog Try.f6 false true false false W args v W' := by
  have hW' := hW
  obtain ⟨p, q, hA0, hV, rfl, hfz, hnd⟩ := hW
  have hA : DataW.TrodAll enc Try.prog W 0 (fun _ => true) true Try.f6.params.toList args.toList ds p := hA0
  rw [Try.params6] at hA hval
  obtain ⟨v0, vs0, d0, ds0, p0, q0, hargs, rfl, rfl, h0, r0⟩ := trodAll_cons hA
  obtain ⟨rfl, rfl, rfl⟩ := trodAll_nil r0
  obtain rfl : args = #[v0] := by cases args; simp_all
  obtain ⟨rfl, rfl⟩ := trodVars_none hV
  have k0 := h0
  obtain ⟨Text, rfl, rfl, rfl, wText⟩ := open_string Try.underlying9 (hval 0 9 v0 rfl rfl) h0
  clear hA0
  simp only [List.append_nil] at hW'
  refine (law Text wText W).mono fun e W' ⟨he, hg⟩ => ?_
  subst he
  exact ⟨_, rfl, post_of_below (pv := []) hW' (fun _ _ _ => trodAll_cons_mk (shut_bool Try.underlying4 _) trodAll_mk0)
    (fun sp hs => trodAll_cons_mk (trod_keeps (t := 9) (by kernel_rfl) (by kernel_rfl) (by kernel_rfl) k0 hg (fun x hx => hW'.lt x (by simp_all)) (fun x hx => hs x (by simp_all))) (trodAll_mk0))
    (fun _ _ => rfl) (by simp) hg (ok_one (by kernel_rfl) rfl (okWide_bool_mk Try.underlying4 _))⟩

theorem reads (os : Os) {H : Type} (enc : TypeId × Value → H) : ∃ places, DataW.whole enc Try.prog ((World.holding Try.prog os ⟨#[], #[], []⟩).forCall (fun _ _ => 0) ⟨#[], #[.string ByteArray.empty], []⟩).memory Try.f6.params.toList Rows.fnExactParseWordSpec.vars false (#[.string ByteArray.empty] : Array Value).toList 8 = some ([.lit (.string [])], [], places) :=
  ⟨[], by kernel_rfl⟩

set_option maxRecDepth 100000 in
theorem lifted (os : Os) (started : os.Started) (H : Type) (enc : TypeId × Value → H) (F : Stop.Interp) :
    ReturnsInHanded {} Try.checked os 6 .any ((OpenSpec.ofChange Rows.fnExactParseWordSpec).preRow enc Try.prog Try.f6 Rows.fnExactParseWordRow.domain false Rows.fnExactParseWordRow.laid) (((OpenSpec.ofChange Rows.fnExactParseWordSpec).at F).post enc Try.prog Try.f6 false true false false) := by
  obtain ⟨places, hx⟩ := reads os enc
  refine returnsInHanded_of_row (C := Try.checked) (s := OpenSpec.ofChange Rows.fnExactParseWordSpec) Low.own started (by kernel_rfl) Try.func6
    (witness_row_at (enc := enc) (C := Try.checked) false (World.holding Try.prog os ⟨#[], #[], []⟩) #[.string ByteArray.empty] rfl (by kernel_rfl) (by kernel_rfl) (by kernel_rfl)
      (OpenSpec.preRow_of_cond 8 hx (by kernel_rfl) (fun k hk => by cases hk) (by kernel_rfl) (laidMet_nil _ _))) ?_
  intro W base args ds gs before hval hW _ _ _ hL hShaped _
  exact contract H enc W base args ds gs before hval hW 

theorem said : Rows.FnExactParseWordSaid :=
  OpenClaim.holds_of_cond 6 Try.f6 rfl rfl rfl rfl rfl rfl rfl ⟨rfl, rfl, rfl, rfl, rfl⟩ rfl rfl rfl rfl rfl (by kernel_rfl) Try.func6 (by kernel_rfl)
    (of_decide_eq_true (by kernel_rfl)) (by unfold Func.isWrapper; first | (rw [if_pos (by decide +kernel)]; kernel_rfl) | (rw [if_neg (by decide +kernel)]; exact ⟨rfl, rfl⟩))
    (fun os started H enc _ F => by rw [OpenClaim.pre_eq_preRow]; exact lifted os started H enc F)
end Go.Proofs.Ytapclpfhpmmbjaa.fnExactParseWord
