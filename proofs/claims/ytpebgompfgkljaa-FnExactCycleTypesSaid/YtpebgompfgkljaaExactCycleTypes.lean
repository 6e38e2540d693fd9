/-
  At every argument the program's CycleTypes returns what the model returns, writes into no argument, and its answer owns its memory.
-/
import Derived.Test.YtpebgompfgkljaaBase
import Derived.Test.YtpebgompfgkljaaLow
import Derived.Test.YtpebgompfgkljaaSlice
import Derived.Test.YtpebgompfgkljaaIntRow
import Derived.Test.YtpebgompfgkljaaInts
import Derived.Test.YtpebgompfgkljaaOwn
import Derived.Test.YtpebgompfgkljaaGrid
import Derived.Test.YtpebgompfgkljaaGridWalk
import Derived.Test.YtpebgompfgkljaaGridWalk2
import Derived.Test.YtpebgompfgkljaaGridMark
import Derived.Test.YtpebgompfgkljaaReadInts
import Derived.Test.YtpebgompfgkljaaGridRows
import Derived.Test.YtpebgompfgkljaaCov
import Derived.Test.YtpebgompfgkljaaAdBr
import Derived.Test.YtpebgompfgkljaaAdCycleTypes
import Derived.Deep.DeepWitnessRowRef
import Derived.OpenShut
import Derived.Deep.DeepHandedRow
import Derived.LaidMore
namespace Go.Proofs.Ytpebgompfgkljaa.fnExactCycleTypes
open Go.ChangeShapes Go.WideShapes Go.ChangeAt Go.RowKit Go.Sort
open Go.ChangeMaps (open_string)

set_option maxRecDepth 10000 in
set_option maxHeartbeats 2000000 in
theorem law (aList : Option Addr) (cList : Nat) (LList : List (List Int)) (w : World) (hhList : GridAt w aList LList ∧ LList.length ≤ maxLen ∧ (∀ r ∈ LList, r.length ≤ maxLen) ∧ ∀ r ∈ LList, I64s r) :
    Calls Try.prog 7 #[.slice aList LList.length cList] w fun e w' => e = .returned (.bool true) ∧ Below w.heap.size w w' := by
  have hZB0 := Below.refl w.heap.size w
  obtain ⟨hAList, hmList, hrList, hIList⟩ := hhList
  have hAList := Lib.hid hAList
  have hIList := Lib.hid hIList
  have hMList := Lib.hid (show LList.length ≤ 9223372036854775807 ∧ ∀ r ∈ LList, r.length ≤ 9223372036854775807 from ⟨hmList, hrList⟩); clear hrList
  unfold maxLen at hmList
  by_cases hfList : tot LList ≤ 1048576
  · skip
    have hLList := Lib.hid (show tot LList ≤ 1048576 by omega)
    have hFList := Lib.hid hfList; clear hfList
    have hSList := Lib.hid (show sumLen LList ≤ 1048576 by have := hLList.out; unfold tot at this; omega)
    have hTList : LList.length ≤ 1048576 := by have := hLList.out; unfold tot at this; omega
    have hZN0 := Lib.hid ((Br.types_tot LList) : tot (Br.types LList) ≤ 1000000)
    have c_spec := fun (aaList : Option Addr) (ccList : Nat) (W : World) (hrList : GridAt W aaList LList) => spec_CycleTypes aaList ccList LList W hrList hLList.out
    have c_impl := fun (aaList : Option Addr) (ccList : Nat) (W : World) (hrList : GridAt W aaList LList) => impl_CycleTypes aaList ccList LList W hrList hLList.out
    generalize hV0 : Br.types LList = R0 at *
    clear hV0
    have hQ0 := Lib.hid (show sumLen R0 ≤ 1000000 by have := hZN0.out; unfold tot at this; omega)
    have Hs := Lib.hid c_spec; have Hi := Lib.hid c_impl; clear c_spec c_impl
    go_enter Try.func7, Try.ntmps7
    go_wp2_with fail
    refine (szIntSS_fit aList cList 1048576 LList w (hAList.out.below hZB0) hMList.out (by omega) hFList.out).mono ?_
    rintro e w1 ⟨rfl, h1⟩
    have h2 := Lib.hid (h1.size)
    have hZB3 : Below w.heap.size w w1 := hZB0.trans (h1.mono hZB0.size)
    clear h1
    go_wp2_with fail
    refine (toIntSS aList cList LList w1 (hAList.out.below hZB3) hLList.out).mono ?_
    rintro e w2 ⟨rfl, h5, h6⟩
    have h7 := Lib.hid (h5); clear h5
    have h8 := Lib.hid (h6.size)
    have hZB9 : Below w.heap.size w w2 := hZB3.trans (h6.mono hZB3.size)
    clear h6
    go_wp2_with fail
    refine (Hs.out (some ⟨w1.heap.size, 0, none⟩) LList.length w2 h7.out.grid).mono ?_
    rintro e w3 ⟨ra11, rc12, rfl, _, _, hf13, h10⟩
    have h14 := Lib.hid (hf13.grid); clear hf13
    have h15 := Lib.hid (h10.size)
    have hZB16 : Below w.heap.size w w3 := hZB9.trans (h10.mono hZB9.size)
    have h17 := Lib.hid (h7.out.below h10); clear h7
    clear h10
    have h18 := Lib.hid (Below.refl w3.heap.size w3)
    clear h17
    go_wp2_with fail
    refine (toIntSS aList cList LList w3 (hAList.out.below hZB16) hLList.out).mono ?_
    rintro e w4 ⟨rfl, h19, h20⟩
    have h21 := Lib.hid (h19); clear h19
    have h22 := Lib.hid (h20.size)
    have hZB23 : Below w.heap.size w w4 := hZB16.trans (h20.mono hZB16.size)
    have h24 := Lib.hid (h18.out.trans (h20.mono h18.out.size)); clear h18
    clear h20
    go_wp2_with fail
    refine (Hi.out (some ⟨w3.heap.size, 0, none⟩) LList.length w4 h21.out.grid).mono ?_
    rintro e w5 ⟨ra26, rc27, rfl, _, _, hf28, h25⟩
    have h29 := Lib.hid (hf28); clear hf28
    have h30 := Lib.hid (h25.size)
    have hZB31 : Below w.heap.size w w5 := hZB23.trans (h25.mono hZB23.size)
    have h32 := Lib.hid (h24.out.trans (h25.mono h24.out.size)); clear h24
    have h33 := Lib.hid (h21.out.below h25); clear h21
    clear h25
    go_wp2_with fail
    refine (eqIntSS ra26 ra11 rc27 rc12 R0 w5 h29.out.grid (h14.out.below h32.out) (Nat.le_trans hZN0.out (by decide))).mono ?_
    rintro e w6 ⟨rfl, h34⟩
    have h35 := Lib.hid (h34.size)
    have hZB36 : Below w.heap.size w w6 := hZB31.trans (h34.mono hZB31.size)
    have h37 := Lib.hid (h32.out.trans (h34.mono h32.out.size)); clear h32
    have h38 := Lib.hid (h33.out.below h34); clear h33
    have h39 := Lib.hid (h29.out.below h34); clear h29
    clear h34
    go_wp2_with fail
    refine (toIntSS aList cList LList w6 (hAList.out.below hZB36) hLList.out).mono ?_
    rintro e w7 ⟨rfl, h41, h42⟩
    have h43 := Lib.hid (h41); clear h41
    have h44 := Lib.hid (h42.size)
    have hZB45 : Below w.heap.size w w7 := hZB36.trans (h42.mono hZB36.size)
    have h46 := Lib.hid (h37.out.trans (h42.mono h37.out.size)); clear h37
    have h47 := Lib.hid (h38.out.below h42); clear h38
    have h48 := Lib.hid (h39.out.below h42); clear h39
    clear h42
    go_wp2_with fail
    refine (eqIntSS (some ⟨w3.heap.size, 0, none⟩) (some ⟨w6.heap.size, 0, none⟩) LList.length LList.length LList w7 h47.out.grid h43.out.grid (Nat.le_trans hLList.out (by decide))).mono ?_
    rintro e w8 ⟨rfl, h49⟩
    have h50 := Lib.hid (h49.size)
    have hZB51 : Below w.heap.size w w8 := hZB45.trans (h49.mono hZB45.size)
    have h52 := Lib.hid (h46.out.trans (h49.mono h46.out.size)); clear h46
    have h53 := Lib.hid (h47.out.below h49); clear h47
    have h54 := Lib.hid (h43.out.below h49); clear h43
    have h55 := Lib.hid (h48.out.below h49); clear h48
    clear h49
    clear h54
    go_wp2_with fail
    refine (markIntSS (some ⟨w3.heap.size, 0, none⟩) LList.length 1 w3.heap.size w4.heap.size LList w8 h53.out (by have := h2.out; have := h8.out; have := h15.out; have := h22.out; have := h30.out; have := h35.out; have := h44.out; have := h50.out; have := hSList.out; have := hQ0.out; omega) (Nat.le_trans hLList.out (by decide))).mono ?_
    rintro e w9 ⟨rfl, h57, h56⟩
    have hZB58 : Below w.heap.size w w9 := hZB51.trans (h56.below (by have := h2.out; have := h8.out; have := h15.out; have := h22.out; have := h30.out; have := h35.out; have := h44.out; have := h50.out; have := hSList.out; have := hQ0.out; omega) hZB51.size)
    have h59 := Lib.hid (h52.out.trans (h56.below (by have := h2.out; have := h8.out; have := h15.out; have := h22.out; have := h30.out; have := h35.out; have := h44.out; have := h50.out; have := hSList.out; have := hQ0.out; omega) h52.out.size)); clear h52
    have h60 := Lib.hid (h55.out.only h56 (by have := h2.out; have := h8.out; have := h15.out; have := h22.out; have := h30.out; have := h35.out; have := h44.out; have := h50.out; have := hSList.out; have := hQ0.out; omega)); clear h55
    have h61 := Lib.hid (h56.size)
    clear h56 h53
    clear h57
    go_wp2_with fail
    refine (eqIntSS ra26 ra11 rc27 rc12 R0 w9 h60.out.grid (h14.out.below h59.out) (Nat.le_trans hZN0.out (by decide))).mono ?_
    rintro e w10 ⟨rfl, h62⟩
    have h63 := Lib.hid (h62.size)
    have hZB64 : Below w.heap.size w w10 := hZB58.trans (h62.mono hZB58.size)
    have h65 := Lib.hid (h59.out.trans (h62.mono h59.out.size)); clear h59
    have h66 := Lib.hid (h60.out.below h62); clear h60
    clear h62
    go_wp2_with fail
    refine (markIntSS ra26 rc27 1 w4.heap.size w5.heap.size R0 w10 h66.out (by have := h2.out; have := h8.out; have := h15.out; have := h22.out; have := h30.out; have := h35.out; have := h44.out; have := h50.out; have := h61.out; have := h63.out; have := hSList.out; have := hQ0.out; omega) (Nat.le_trans hZN0.out (by decide))).mono ?_
    rintro e w11 ⟨rfl, h68, h67⟩
    have hZB69 : Below w.heap.size w w11 := hZB64.trans (h67.below (by have := h2.out; have := h8.out; have := h15.out; have := h22.out; have := h30.out; have := h35.out; have := h44.out; have := h50.out; have := h61.out; have := h63.out; have := hSList.out; have := hQ0.out; omega) hZB64.size)
    have h70 := Lib.hid (h65.out.trans (h67.below (by have := h2.out; have := h8.out; have := h15.out; have := h22.out; have := h30.out; have := h35.out; have := h44.out; have := h50.out; have := h61.out; have := h63.out; have := hSList.out; have := hQ0.out; omega) h65.out.size)); clear h65
    have h71 := Lib.hid (h67.size)
    clear h67 h66
    have h72 := Lib.hid (h68); clear h68
    go_wp2_with fail
    refine (heldIntSS ra26 rc27 1 R0 w11 h72.out.grid (by have := h2.out; have := h8.out; have := h15.out; have := h22.out; have := h30.out; have := h35.out; have := h44.out; have := h50.out; have := h61.out; have := h63.out; have := h71.out; have := hSList.out; have := hQ0.out; omega) (Nat.le_trans hZN0.out (by decide))).mono ?_
    rintro e w12 ⟨rfl, h73⟩
    have h74 := Lib.hid (h73.size)
    have hZB75 : Below w.heap.size w w12 := hZB69.trans (h73.mono hZB69.size)
    have h76 := Lib.hid (h70.out.trans (h73.mono h70.out.size)); clear h70
    have h77 := Lib.hid (h72.out.below h73); clear h72
    clear h73
    go_wp2_with fail
    refine (toIntSS aList cList LList w12 (hAList.out.below hZB75) hLList.out).mono ?_
    rintro e w13 ⟨rfl, h79, h80⟩
    have h81 := Lib.hid (h79); clear h79
    have h82 := Lib.hid (h80.size)
    have hZB83 : Below w.heap.size w w13 := hZB75.trans (h80.mono hZB75.size)
    have h84 := Lib.hid (h76.out.trans (h80.mono h76.out.size)); clear h76
    have h85 := Lib.hid (h77.out.below h80); clear h77
    clear h80
    go_wp2_with fail
    refine (Hi.out (some ⟨w12.heap.size, 0, none⟩) LList.length w13 h81.out.grid).mono ?_
    rintro e w14 ⟨ra87, rc88, rfl, _, _, hf89, h86⟩
    have h90 := Lib.hid (hf89); clear hf89
    have h91 := Lib.hid (h86.size)
    have hZB92 : Below w.heap.size w w14 := hZB83.trans (h86.mono hZB83.size)
    have h93 := Lib.hid (h84.out.trans (h86.mono h84.out.size)); clear h84
    have h94 := Lib.hid (h81.out.below h86); clear h81
    have h95 := Lib.hid (h85.out.below h86); clear h85
    clear h86
    clear h94
    go_wp2_with fail
    refine (eqIntSS ra87 ra11 rc88 rc12 R0 w14 h90.out.grid (h14.out.below h93.out) (Nat.le_trans hZN0.out (by decide))).mono ?_
    rintro e w15 ⟨rfl, h96⟩
    have h97 := Lib.hid (h96.size)
    have hZB98 : Below w.heap.size w w15 := hZB92.trans (h96.mono hZB92.size)
    have h99 := Lib.hid (h93.out.trans (h96.mono h93.out.size)); clear h93
    have h100 := Lib.hid (h95.out.below h96); clear h95
    have h101 := Lib.hid (h90.out.below h96); clear h90
    clear h96
    go_wp2_with fail
    refine (heldIntSS ra26 rc27 1 R0 w15 h100.out.grid (by have := h2.out; have := h8.out; have := h15.out; have := h22.out; have := h30.out; have := h35.out; have := h44.out; have := h50.out; have := h61.out; have := h63.out; have := h71.out; have := h74.out; have := h82.out; have := h91.out; have := h97.out; have := hSList.out; have := hQ0.out; omega) (Nat.le_trans hZN0.out (by decide))).mono ?_
    rintro e w16 ⟨rfl, h102⟩
    have h103 := Lib.hid (h102.size)
    have hZB104 : Below w.heap.size w w16 := hZB98.trans (h102.mono hZB98.size)
    have h105 := Lib.hid (h99.out.trans (h102.mono h99.out.size)); clear h99
    have h106 := Lib.hid (h100.out.below h102); clear h100
    have h107 := Lib.hid (h101.out.below h102); clear h101
    clear h102
    go_wp2
    go_ret
    exact ⟨rfl, hZB104⟩
  · have hLList := Lib.hid hfList
    clear hfList
    go_enter Try.func7, Try.ntmps7
    go_wp2_with fail
    refine (szIntSS_big aList cList 1048576 LList w (hAList.out.below hZB0) hMList.out (by omega) hLList.out).mono ?_
    rintro e w1 ⟨rfl, h108⟩
    have h109 := Lib.hid (h108.size)
    have hZB110 : Below w.heap.size w w1 := hZB0.trans (h108.mono hZB0.size)
    clear h108
    go_wp2
    go_ret
    exact ⟨rfl, hZB110⟩

set_option maxRecDepth 100000 in
theorem contract (H : Type) (enc : TypeId × Value → H) (W : World) (base : Nat) (args : Array Value) (ds gs : List (DataW H)) (before : List MemPlace)
    (hval : ∀ (j : Nat) t v, Try.f7.params[j]? = some t → args[j]? = some v → Value.okWide Try.prog W .any base t v)
    (hW : DataW.Whole enc Try.prog Try.f7.params.toList Rows.fnExactCycleTypesSpec.vars false W args.toList ds gs before) :
    Calls Try.prog 7 args W fun e W' => ∃ v, e = .returned v ∧ Rows.fnExactCycleTypesSpec.post enc Try.prog Try.f7 false true false false W args v W' := by
  have hW' := hW
  obtain ⟨p, q, hA0, hV, rfl, hfz, hnd⟩ := hW
  have hA : DataW.TrodAll enc Try.prog W 0 (fun _ => true) true Try.f7.params.toList args.toList ds p := hA0
  rw [Try.params7] at hA hval
  obtain ⟨v0, vs0, d0, ds0, p0, q0, hargs, rfl, rfl, h0, r0⟩ := trodAll_cons hA
  obtain ⟨rfl, rfl, rfl⟩ := trodAll_nil r0
  obtain rfl : args = #[v0] := by cases args; simp_all
  obtain ⟨rfl, rfl⟩ := trodVars_none hV
  have k0 := h0
  obtain ⟨aList, cList, lList, rfl, wList⟩ := Read.rows_of (hval 0 24 v0 rfl rfl) h0
  clear hA0
  simp only [List.append_nil] at hW'
  refine (law aList cList lList W wList).mono fun e W' ⟨he, hg⟩ => ?_
  subst he
  exact ⟨_, rfl, post_of_below (pv := []) hW' (fun _ _ _ => trodAll_cons_mk (shut_bool Try.underlying4 _) trodAll_mk0)
    (fun sp hs => trodAll_cons_mk (trod_keeps (t := 24) (by kernel_rfl) (by kernel_rfl) (by kernel_rfl) k0 hg (fun x hx => hW'.lt x (by simp_all)) (fun x hx => hs x (by simp_all))) (trodAll_mk0))
    (fun _ _ => rfl) (by simp) hg (ok_one (by kernel_rfl) rfl (okWide_bool_mk Try.underlying4 _))⟩

theorem reads (os : Os) {H : Type} (enc : TypeId × Value → H) : ∃ places, DataW.whole enc Try.prog ((World.holding Try.prog os ⟨#[], #[], []⟩).forCall (fun _ _ => 0) ⟨#[], #[.slice none 0 0], []⟩).memory Try.f7.params.toList Rows.fnExactCycleTypesSpec.vars false (#[.slice none 0 0] : Array Value).toList 8 = some ([.nil], [], places) :=
  ⟨[], by kernel_rfl⟩

set_option maxRecDepth 100000 in
theorem lifted (os : Os) (started : os.Started) (H : Type) (enc : TypeId × Value → H) (F : Stop.Interp) :
    ReturnsInHanded {} Try.checked os 7 .any ((OpenSpec.ofChange Rows.fnExactCycleTypesSpec).preRow enc Try.prog Try.f7 Rows.fnExactCycleTypesRow.domain false Rows.fnExactCycleTypesRow.laid) (((OpenSpec.ofChange Rows.fnExactCycleTypesSpec).at F).post enc Try.prog Try.f7 false true false false) := by
  obtain ⟨places, hx⟩ := reads os enc
  refine returnsInHanded_of_row (C := Try.checked) (s := OpenSpec.ofChange Rows.fnExactCycleTypesSpec) Low.own started (by kernel_rfl) Try.func7
    (witness_row_at (enc := enc) (C := Try.checked) false (World.holding Try.prog os ⟨#[], #[], []⟩) #[.slice none 0 0] rfl (by kernel_rfl) (by kernel_rfl) (by kernel_rfl)
      (OpenSpec.preRow_of_cond 8 hx (by kernel_rfl) (fun k hk => by cases hk) (by kernel_rfl) (laidMet_nil _ _))) ?_
  intro W base args ds gs before hval hW _ _ _ hL hShaped _
  exact contract H enc W base args ds gs before hval hW 

theorem said : Rows.FnExactCycleTypesSaid :=
  OpenClaim.holds_of_cond 7 Try.f7 rfl rfl rfl rfl rfl rfl rfl ⟨rfl, rfl, rfl, rfl, rfl⟩ rfl rfl rfl rfl rfl (by kernel_rfl) Try.func7 (by kernel_rfl)
    (of_decide_eq_true (by kernel_rfl)) (by unfold Func.isWrapper; first | (rw [if_pos (by decide +kernel)]; kernel_rfl) | (rw [if_neg (by decide +kernel)]; exact ⟨rfl, rfl⟩))
    (fun os started H enc _ F => by rw [OpenClaim.pre_eq_preRow]; exact lifted os started H enc F)
end Go.Proofs.Ytpebgompfgkljaa.fnExactCycleTypes
