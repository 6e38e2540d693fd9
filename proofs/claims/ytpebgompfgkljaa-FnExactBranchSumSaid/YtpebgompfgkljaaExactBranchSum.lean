/-
  At every argument the program's BranchSum returns what the model returns, writes into no argument, and its answer owns its memory.
-/
import Derived.Test.YtpebgompfgkljaaBase
import Derived.Test.YtpebgompfgkljaaLow
import Derived.Test.YtpebgompfgkljaaSlice
import Derived.Test.YtpebgompfgkljaaIntRow
import Derived.Test.YtpebgompfgkljaaInts
import Derived.Test.YtpebgompfgkljaaOwn
import Derived.Test.YtpebgompfgkljaaGrid
import Derived.Test.YtpebgompfgkljaaGridWalk
import Derived.Test.YtpebgompfgkljaaGridWalk2
import Derived.Test.YtpebgompfgkljaaGridMark
import Derived.Test.YtpebgompfgkljaaReadInts
import Derived.Test.YtpebgompfgkljaaCov
import Derived.Test.YtpebgompfgkljaaAdBranchSum
import Derived.Deep.DeepWitnessRowRef
import Derived.OpenShut
import Derived.Deep.DeepHandedRow
import Derived.LaidMore
namespace Go.Proofs.Ytpebgompfgkljaa.fnExactBranchSum
open Go.ChangeShapes Go.WideShapes Go.ChangeAt Go.RowKit Go.Sort
open Go.ChangeMaps (open_string)

set_option maxRecDepth 10000 in
set_option maxHeartbeats 2000000 in
theorem law (aList : Option Addr) (cList : Nat) (LList : List (List Int)) (w : World) (hhList : GridAt w aList LList ∧ LList.length ≤ maxLen ∧ (∀ r ∈ LList, r.length ≤ maxLen) ∧ ∀ r ∈ LList, I64s r) :
    Calls Try.prog 5 #[.slice aList LList.length cList] w fun e w' => e = .returned (.bool true) ∧ Below w.heap.size w w' := by
  have hZB0 := Below.refl w.heap.size w
  obtain ⟨hAList, hmList, hrList, hIList⟩ := hhList
  have hAList := Lib.hid hAList
  have hIList := Lib.hid hIList
  have hMList := Lib.hid (show LList.length ≤ 9223372036854775807 ∧ ∀ r ∈ LList, r.length ≤ 9223372036854775807 from ⟨hmList, hrList⟩); clear hrList
  unfold maxLen at hmList
  by_cases hfList : tot LList ≤ 1048576
  · skip
    have hLList := Lib.hid (show tot LList ≤ 1048576 by omega)
    have hFList := Lib.hid hfList; clear hfList
    have hSList := Lib.hid (show sumLen LList ≤ 1048576 by have := hLList.out; unfold tot at this; omega)
    have hTList : LList.length ≤ 1048576 := by have := hLList.out; unfold tot at this; omega
    have c_spec := fun (aaList : Option Addr) (ccList : Nat) (W : World) (hrList : GridAt W aaList LList) => spec_BranchSum aaList ccList LList W hrList hLList.out
    have c_impl := fun (aaList : Option Addr) (ccList : Nat) (W : World) (hrList : GridAt W aaList LList) => impl_BranchSum aaList ccList LList W hrList hLList.out
    generalize hV0 : (Br.bsum LList) = S0 at *
    clear hV0
    have Hs := Lib.hid c_spec; have Hi := Lib.hid c_impl; clear c_spec c_impl
    go_enter Try.func5, Try.ntmps5
    go_wp2_with fail
    refine (szIntSS_fit aList cList 1048576 LList w (hAList.out.below hZB0) hMList.out (by omega) hFList.out).mono ?_
    rintro e w1 ⟨rfl, h1⟩
    have h2 := Lib.hid (h1.size)
    have hZB3 : Below w.heap.size w w1 := hZB0.trans (h1.mono hZB0.size)
    clear h1
    go_wp2_with fail
    refine (toIntSS aList cList LList w1 (hAList.out.below hZB3) hLList.out).mono ?_
    rintro e w2 ⟨rfl, h5, h6⟩
    have h7 := Lib.hid (h5); clear h5
    have h8 := Lib.hid (h6.size)
    have hZB9 : Below w.heap.size w w2 := hZB3.trans (h6.mono hZB3.size)
    clear h6
    go_wp2_with fail
    refine (Hs.out (some ⟨w1.heap.size, 0, none⟩) LList.length w2 h7.out.grid).mono ?_
    rintro e w3 ⟨rfl, h10⟩
    have h11 := Lib.hid (h10.size)
    have hZB12 : Below w.heap.size w w3 := hZB9.trans (h10.mono hZB9.size)
    have h13 := Lib.hid (h7.out.below h10); clear h7
    clear h10
    clear h13
    go_wp2_with fail
    refine (toIntSS aList cList LList w3 (hAList.out.below hZB12) hLList.out).mono ?_
    rintro e w4 ⟨rfl, h14, h15⟩
    have h16 := Lib.hid (h14); clear h14
    have h17 := Lib.hid (h15.size)
    have hZB18 : Below w.heap.size w w4 := hZB12.trans (h15.mono hZB12.size)
    clear h15
    go_wp2_with fail
    refine (Hi.out (some ⟨w3.heap.size, 0, none⟩) LList.length w4 h16.out.grid).mono ?_
    rintro e w5 ⟨rfl, h19⟩
    have h20 := Lib.hid (h19.size)
    have hZB21 : Below w.heap.size w w5 := hZB18.trans (h19.mono hZB18.size)
    have h22 := Lib.hid (h16.out.below h19); clear h16
    clear h19
    go_wp2_with fail
    refine (toIntSS aList cList LList w5 (hAList.out.below hZB21) hLList.out).mono ?_
    rintro e w6 ⟨rfl, h24, h25⟩
    have h26 := Lib.hid (h24); clear h24
    have h27 := Lib.hid (h25.size)
    have hZB28 : Below w.heap.size w w6 := hZB21.trans (h25.mono hZB21.size)
    have h29 := Lib.hid (h22.out.below h25); clear h22
    clear h25
    go_wp2_with fail
    refine (eqIntSS (some ⟨w3.heap.size, 0, none⟩) (some ⟨w5.heap.size, 0, none⟩) LList.length LList.length LList w6 h29.out.grid h26.out.grid (Nat.le_trans hLList.out (by decide))).mono ?_
    rintro e w7 ⟨rfl, h30⟩
    have h31 := Lib.hid (h30.size)
    have hZB32 : Below w.heap.size w w7 := hZB28.trans (h30.mono hZB28.size)
    have h33 := Lib.hid (h29.out.below h30); clear h29
    have h34 := Lib.hid (h26.out.below h30); clear h26
    clear h30
    clear h34
    go_wp2
    go_ret
    exact ⟨rfl, hZB32⟩
  · have hLList := Lib.hid hfList
    clear hfList
    go_enter Try.func5, Try.ntmps5
    go_wp2_with fail
    refine (szIntSS_big aList cList 1048576 LList w (hAList.out.below hZB0) hMList.out (by omega) hLList.out).mono ?_
    rintro e w1 ⟨rfl, h35⟩
    have h36 := Lib.hid (h35.size)
    have hZB37 : Below w.heap.size w w1 := hZB0.trans (h35.mono hZB0.size)
    clear h35
    go_wp2
    go_ret
    exact ⟨rfl, hZB37⟩

set_option maxRecDepth 100000 in
theorem contract (H : Type) (enc : TypeId × Value → H) (W : World) (base : Nat) (args : Array Value) (ds gs : List (DataW H)) (before : List MemPlace)
    (hval : ∀ (j : Nat) t v, Try.f5.params[j]? = some t → args[j]? = some v → Value.okWide Try.prog W .any base t v)
    (hW : DataW.Whole enc Try.prog Try.f5.params.toList Rows.fnExactBranchSumSpec.vars false W args.toList ds gs before) :
    Calls Try.prog 5 args W fun e W' => ∃ v, e = .returned v ∧ Rows.fnExactBranchSumSpec.post enc Try.prog Try.f5 false true false false W args v W' := by
  have hW' := hW
  obtain ⟨p, q, hA0, hV, rfl, hfz, hnd⟩ := hW
  have hA : DataW.TrodAll enc Try.prog W 0 (fun _ => true) true Try.f5.params.toList args.toList ds p := hA0
  rw [Try.params5] at hA hval
  obtain ⟨v0, vs0, d0, ds0, p0, q0, hargs, rfl, rfl, h0, r0⟩ := trodAll_cons hA
  obtain ⟨rfl, rfl, rfl⟩ := trodAll_nil r0
  obtain rfl : args = #[v0] := by cases args; simp_all
  obtain ⟨rfl, rfl⟩ := trodVars_none hV
  have k0 := h0
  obtain ⟨aList, cList, lList, rfl, wList⟩ := Read.rows_of (hval 0 24 v0 rfl rfl) h0
  clear hA0
  simp only [List.append_nil] at hW'
  refine (law aList cList lList W wList).mono fun e W' ⟨he, hg⟩ => ?_
  subst he
  exact ⟨_, rfl, post_of_below (pv := []) hW' (fun _ _ _ => trodAll_cons_mk (shut_bool Try.underlying4 _) trodAll_mk0)
    (fun sp hs => trodAll_cons_mk (trod_keeps (t := 24) (by kernel_rfl) (by kernel_rfl) (by kernel_rfl) k0 hg (fun x hx => hW'.lt x (by simp_all)) (fun x hx => hs x (by simp_all))) (trodAll_mk0))
    (fun _ _ => rfl) (by simp) hg (ok_one (by kernel_rfl) rfl (okWide_bool_mk Try.underlying4 _))⟩

theorem reads (os : Os) {H : Type} (enc : TypeId × Value → H) : ∃ places, DataW.whole enc Try.prog ((World.holding Try.prog os ⟨#[], #[], []⟩).forCall (fun _ _ => 0) ⟨#[], #[.slice none 0 0], []⟩).memory Try.f5.params.toList Rows.fnExactBranchSumSpec.vars false (#[.slice none 0 0] : Array Value).toList 8 = some ([.nil], [], places) :=
  ⟨[], by kernel_rfl⟩

set_option maxRecDepth 100000 in
theorem lifted (os : Os) (started : os.Started) (H : Type) (enc : TypeId × Value → H) (F : Stop.Interp) :
    ReturnsInHanded {} Try.checked os 5 .any ((OpenSpec.ofChange Rows.fnExactBranchSumSpec).preRow enc Try.prog Try.f5 Rows.fnExactBranchSumRow.domain false Rows.fnExactBranchSumRow.laid) (((OpenSpec.ofChange Rows.fnExactBranchSumSpec).at F).post enc Try.prog Try.f5 false true false false) := by
  obtain ⟨places, hx⟩ := reads os enc
  refine returnsInHanded_of_row (C := Try.checked) (s := OpenSpec.ofChange Rows.fnExactBranchSumSpec) Low.own started (by kernel_rfl) Try.func5
    (witness_row_at (enc := enc) (C := Try.checked) false (World.holding Try.prog os ⟨#[], #[], []⟩) #[.slice none 0 0] rfl (by kernel_rfl) (by kernel_rfl) (by kernel_rfl)
      (OpenSpec.preRow_of_cond 8 hx (by kernel_rfl) (fun k hk => by cases hk) (by kernel_rfl) (laidMet_nil _ _))) ?_
  intro W base args ds gs before hval hW _ _ _ hL hShaped _
  exact contract H enc W base args ds gs before hval hW 

theorem said : Rows.FnExactBranchSumSaid :=
  OpenClaim.holds_of_cond 5 Try.f5 rfl rfl rfl rfl rfl rfl rfl ⟨rfl, rfl, rfl, rfl, rfl⟩ rfl rfl rfl rfl rfl (by kernel_rfl) Try.func5 (by kernel_rfl)
    (of_decide_eq_true (by kernel_rfl)) (by unfold Func.isWrapper; first | (rw [if_pos (by decide +kernel)]; kernel_rfl) | (rw [if_neg (by decide +kernel)]; exact ⟨rfl, rfl⟩))
    (fun os started H enc _ F => by rw [OpenClaim.pre_eq_preRow]; exact lifted os started H enc F)
end Go.Proofs.Ytpebgompfgkljaa.fnExactBranchSum
