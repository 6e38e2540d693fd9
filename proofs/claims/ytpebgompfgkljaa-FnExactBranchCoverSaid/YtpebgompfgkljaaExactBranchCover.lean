/-
  At every argument the program's BranchCover returns what the model returns, writes into no argument, and its answer owns its memory.
-/
import Derived.Test.YtpebgompfgkljaaBase
import Derived.Test.YtpebgompfgkljaaLow
import Derived.Test.YtpebgompfgkljaaSlice
import Derived.Test.YtpebgompfgkljaaIntRow
import Derived.Test.YtpebgompfgkljaaInts
import Derived.Test.YtpebgompfgkljaaOwn
import Derived.Test.YtpebgompfgkljaaGrid
import Derived.Test.YtpebgompfgkljaaGridWalk
import Derived.Test.YtpebgompfgkljaaGridWalk2
import Derived.Test.YtpebgompfgkljaaGridMark
import Derived.Test.YtpebgompfgkljaaReadInts
import Derived.Test.YtpebgompfgkljaaCov
import Derived.Test.YtpebgompfgkljaaSurf
import Derived.Test.YtpebgompfgkljaaAdBranchCover
import Derived.Deep.DeepWitnessRowRef
import Derived.OpenShut
import Derived.Deep.DeepHandedRow
import Derived.LaidMore
namespace Go.Proofs.Ytpebgompfgkljaa.fnExactBranchCover
open Go.ChangeShapes Go.WideShapes Go.ChangeAt Go.RowKit Go.Sort
open Go.ChangeMaps (open_string)

set_option maxRecDepth 10000 in
set_option maxHeartbeats 2000000 in
theorem law (aList : Option Addr) (cList : Nat) (LList : List (List Int)) (w : World) (hhList : GridAt w aList LList ∧ LList.length ≤ maxLen ∧ (∀ r ∈ LList, r.length ≤ maxLen) ∧ ∀ r ∈ LList, I64s r) :
    Calls Try.prog 6 #[.slice aList LList.length cList] w fun e w' => e = .returned (.bool true) ∧ Below w.heap.size w w' := by
  have hZB0 := Below.refl w.heap.size w
  obtain ⟨hAList, hmList, hrList, hIList⟩ := hhList
  have hAList := Lib.hid hAList
  have hIList := Lib.hid hIList
  have hMList := Lib.hid (show LList.length ≤ 9223372036854775807 ∧ ∀ r ∈ LList, r.length ≤ 9223372036854775807 from ⟨hmList, hrList⟩); clear hrList
  unfold maxLen at hmList
  by_cases hfList : tot LList ≤ 1048576
  · skip
    have hLList := Lib.hid (show tot LList ≤ 1048576 by omega)
    have hFList := Lib.hid hfList; clear hfList
    have hSList := Lib.hid (show sumLen LList ≤ 1048576 by have := hLList.out; unfold tot at this; omega)
    have hTList : LList.length ≤ 1048576 := by have := hLList.out; unfold tot at this; omega
    have c_spec := fun (aaList : Option Addr) (ccList : Nat) (W : World) (hrList : GridAt W aaList LList) => spec_BranchCover aaList ccList LList W hrList hLList.out
    have c_impl := fun (aaList : Option Addr) (ccList : Nat) (W : World) (hrList : GridAt W aaList LList) => impl_BranchCover aaList ccList LList W hrList hLList.out
    generalize Br.cover LList = S0 at *
    generalize hV1 : (decide (Br.CoverOk LList)) = S1 at *
    clear hV1
    have Hs := Lib.hid c_spec; have Hi := Lib.hid c_impl; clear c_spec c_impl
    go_enter Try.func6, Try.ntmps6
    go_wp2_with fail
    refine (szIntSS_fit aList cList 1048576 LList w (hAList.out.below hZB0) hMList.out (by omega) hFList.out).mono ?_
    rintro e w1 ⟨rfl, h1⟩
    have h2 := Lib.hid (h1.size)
    have hZB3 : Below w.heap.size w w1 := hZB0.trans (h1.mono hZB0.size)
    clear h1
    go_wp2_with fail
    refine (toIntSS aList cList LList w1 (hAList.out.below hZB3) hLList.out).mono ?_
    rintro e w2 ⟨rfl, h5, h6⟩
    have h7 := Lib.hid (h5); clear h5
    have h8 := Lib.hid (h6.size)
    have hZB9 : Below w.heap.size w w2 := hZB3.trans (h6.mono hZB3.size)
    clear h6
    go_wp2_with fail
    refine (Hs.out (some ⟨w1.heap.size, 0, none⟩) LList.length w2 h7.out.grid).mono ?_
    rintro e w3 ⟨rfl, h10⟩
    have h11 := Lib.hid (h10.size)
    have hZB12 : Below w.heap.size w w3 := hZB9.trans (h10.mono hZB9.size)
    have h13 := Lib.hid (h7.out.below h10); clear h7
    clear h10
    clear h13
    have h14 : Below w3.heap.size w3 (w3.alloc (.cells #[.int .i64 S0.1, .int .i64 S0.2.1, .int .i64 S0.2.2] 50)) := (Below.refl _ _).alloc (Nat.le_refl _) _
    have h15 := Lib.hid (h14.size)
    have hZB16 : Below w.heap.size w (w3.alloc (.cells #[.int .i64 S0.1, .int .i64 S0.2.1, .int .i64 S0.2.2] 50)) := hZB12.trans (h14.mono hZB12.size)
    clear h14
    have h17 := Lib.hid (show (w3.alloc (.cells #[.int .i64 S0.1, .int .i64 S0.2.1, .int .i64 S0.2.2] 50)).heap.size = w3.heap.size + 1 from by simp)
    have h18 := Lib.hid (show Blk (w3.alloc (.cells #[.int .i64 S0.1, .int .i64 S0.2.1, .int .i64 S0.2.2] 50)) w3.heap.size 50 #[.int .i64 S0.1, .int .i64 S0.2.1, .int .i64 S0.2.2] from Blk.new w3 _ _)
    obtain ⟨q19_0, q19_1, q19_2, q19_3, q19_4, q19_5⟩ := h18.out.six
    go_wp2_with fail
    refine (toIntSS aList cList LList (w3.alloc (.cells #[.int .i64 S0.1, .int .i64 S0.2.1, .int .i64 S0.2.2] 50)) (hAList.out.below hZB16) hLList.out).mono ?_
    rintro e w4 ⟨rfl, h20, h21⟩
    rw [show (w3.alloc (.cells #[.int .i64 S0.1, .int .i64 S0.2.1, .int .i64 S0.2.2] 50)).heap.size = w3.heap.size + 1 from by simp] at h20
    have h22 := Lib.hid (h20); clear h20
    have h23 := Lib.hid (h21.size)
    have hZB24 : Below w.heap.size w w4 := hZB16.trans (h21.mono hZB16.size)
    have h25 := Lib.hid (h18.out.below h21 h18.out.lt); clear h18
    clear q19_0 q19_1 q19_2 q19_3 q19_4 q19_5
    obtain ⟨q26_0, q26_1, q26_2, q26_3, q26_4, q26_5⟩ := h25.out.six
    clear h21
    go_wp2_with fail
    refine (Hi.out (some ⟨(w3.heap.size + 1), 0, none⟩) LList.length w4 h22.out.grid).mono ?_
    rintro e w5 ⟨rfl, h27⟩
    have h28 := Lib.hid (h27.size)
    have hZB29 : Below w.heap.size w w5 := hZB24.trans (h27.mono hZB24.size)
    have h30 := Lib.hid (h22.out.below h27); clear h22
    have h31 := Lib.hid (h25.out.below h27 h25.out.lt); clear h25
    clear q26_0 q26_1 q26_2 q26_3 q26_4 q26_5
    obtain ⟨q32_0, q32_1, q32_2, q32_3, q32_4, q32_5⟩ := h31.out.six
    clear h27
    have h33 : Below w5.heap.size w5 (w5.alloc (.cells #[.int .i64 S0.1, .int .i64 S0.2.1, .int .i64 S0.2.2] 50)) := (Below.refl _ _).alloc (Nat.le_refl _) _
    have h34 := Lib.hid (h33.size)
    have hZB35 : Below w.heap.size w (w5.alloc (.cells #[.int .i64 S0.1, .int .i64 S0.2.1, .int .i64 S0.2.2] 50)) := hZB29.trans (h33.mono hZB29.size)
    have h36 := Lib.hid (h30.out.below h33); clear h30
    have h37 := Lib.hid (h31.out.below h33 h31.out.lt); clear h31
    clear q32_0 q32_1 q32_2 q32_3 q32_4 q32_5
    obtain ⟨q38_0, q38_1, q38_2, q38_3, q38_4, q38_5⟩ := h37.out.six
    clear h33
    have h39 := Lib.hid (show (w5.alloc (.cells #[.int .i64 S0.1, .int .i64 S0.2.1, .int .i64 S0.2.2] 50)).heap.size = w5.heap.size + 1 from by simp)
    have h40 := Lib.hid (show Blk (w5.alloc (.cells #[.int .i64 S0.1, .int .i64 S0.2.1, .int .i64 S0.2.2] 50)) w5.heap.size 50 #[.int .i64 S0.1, .int .i64 S0.2.1, .int .i64 S0.2.2] from Blk.new w5 _ _)
    clear q38_0 q38_1 q38_2 q38_3 q38_4 q38_5
    obtain ⟨q41_0, q41_1, q41_2, q41_3, q41_4, q41_5⟩ := h37.out.six
    obtain ⟨q42_0, q42_1, q42_2, q42_3, q42_4, q42_5⟩ := h40.out.six
    go_wp2_with fail
    refine (eqSurface S0.1 S0.2.1 S0.2.2 _).mono ?_
    rintro e w6 ⟨rfl, h43⟩
    have h44 := Lib.hid (h43.size)
    have hZB45 : Below w.heap.size w w6 := hZB35.trans (h43.mono hZB35.size)
    have h46 := Lib.hid (h36.out.below h43); clear h36
    have h47 := Lib.hid (h37.out.below h43 h37.out.lt); clear h37
    have h48 := Lib.hid (h40.out.below h43 h40.out.lt); clear h40
    clear q41_0 q41_1 q41_2 q41_3 q41_4 q41_5
    obtain ⟨q49_0, q49_1, q49_2, q49_3, q49_4, q49_5⟩ := h47.out.six
    clear q42_0 q42_1 q42_2 q42_3 q42_4 q42_5
    obtain ⟨q50_0, q50_1, q50_2, q50_3, q50_4, q50_5⟩ := h48.out.six
    clear h43
    go_wp2_with fail
    refine (toIntSS aList cList LList w6 (hAList.out.below hZB45) hLList.out).mono ?_
    rintro e w7 ⟨rfl, h52, h53⟩
    have h54 := Lib.hid (h52); clear h52
    have h55 := Lib.hid (h53.size)
    have hZB56 : Below w.heap.size w w7 := hZB45.trans (h53.mono hZB45.size)
    have h57 := Lib.hid (h46.out.below h53); clear h46
    have h58 := Lib.hid (h47.out.below h53 h47.out.lt); clear h47
    have h59 := Lib.hid (h48.out.below h53 h48.out.lt); clear h48
    clear q49_0 q49_1 q49_2 q49_3 q49_4 q49_5
    obtain ⟨q60_0, q60_1, q60_2, q60_3, q60_4, q60_5⟩ := h58.out.six
    clear q50_0 q50_1 q50_2 q50_3 q50_4 q50_5
    obtain ⟨q61_0, q61_1, q61_2, q61_3, q61_4, q61_5⟩ := h59.out.six
    clear h53
    go_wp2_with fail
    refine (eqIntSS (some ⟨(w3.heap.size + 1), 0, none⟩) (some ⟨w6.heap.size, 0, none⟩) LList.length LList.length LList w7 h57.out.grid h54.out.grid (Nat.le_trans hLList.out (by decide))).mono ?_
    rintro e w8 ⟨rfl, h62⟩
    have h63 := Lib.hid (h62.size)
    have hZB64 : Below w.heap.size w w8 := hZB56.trans (h62.mono hZB56.size)
    have h65 := Lib.hid (h57.out.below h62); clear h57
    have h66 := Lib.hid (h54.out.below h62); clear h54
    have h67 := Lib.hid (h58.out.below h62 h58.out.lt); clear h58
    have h68 := Lib.hid (h59.out.below h62 h59.out.lt); clear h59
    clear q60_0 q60_1 q60_2 q60_3 q60_4 q60_5
    obtain ⟨q69_0, q69_1, q69_2, q69_3, q69_4, q69_5⟩ := h67.out.six
    clear q61_0 q61_1 q61_2 q61_3 q61_4 q61_5
    obtain ⟨q70_0, q70_1, q70_2, q70_3, q70_4, q70_5⟩ := h68.out.six
    clear h62
    clear h66
    go_wp2
    go_ret
    exact ⟨rfl, hZB64⟩
  · have hLList := Lib.hid hfList
    clear hfList
    go_enter Try.func6, Try.ntmps6
    go_wp2_with fail
    refine (szIntSS_big aList cList 1048576 LList w (hAList.out.below hZB0) hMList.out (by omega) hLList.out).mono ?_
    rintro e w1 ⟨rfl, h71⟩
    have h72 := Lib.hid (h71.size)
    have hZB73 : Below w.heap.size w w1 := hZB0.trans (h71.mono hZB0.size)
    clear h71
    go_wp2
    go_ret
    exact ⟨rfl, hZB73⟩

set_option maxRecDepth 100000 in
theorem contract (H : Type) (enc : TypeId × Value → H) (W : World) (base : Nat) (args : Array Value) (ds gs : List (DataW H)) (before : List MemPlace)
    (hval : ∀ (j : Nat) t v, Try.f6.params[j]? = some t → args[j]? = some v → Value.okWide Try.prog W .any base t v)
    (hW : DataW.Whole enc Try.prog Try.f6.params.toList Rows.fnExactBranchCoverSpec.vars false W args.toList ds gs before) :
    Calls Try.prog 6 args W fun e W' => ∃ v, e = .returned v ∧ Rows.fnExactBranchCoverSpec.post enc Try.prog Try.f6 false true false false W args v W' := by
  have hW' := hW
  obtain ⟨p, q, hA0, hV, rfl, hfz, hnd⟩ := hW
  have hA : DataW.TrodAll enc Try.prog W 0 (fun _ => true) true Try.f6.params.toList args.toList ds p := hA0
  rw [Try.params6] at hA hval
  obtain ⟨v0, vs0, d0, ds0, p0, q0, hargs, rfl, rfl, h0, r0⟩ := trodAll_cons hA
  obtain ⟨rfl, rfl, rfl⟩ := trodAll_nil r0
  obtain rfl : args = #[v0] := by cases args; simp_all
  obtain ⟨rfl, rfl⟩ := trodVars_none hV
  have k0 := h0
  obtain ⟨aList, cList, lList, rfl, wList⟩ := Read.rows_of (hval 0 24 v0 rfl rfl) h0
  clear hA0
  simp only [List.append_nil] at hW'
  refine (law aList cList lList W wList).mono fun e W' ⟨he, hg⟩ => ?_
  subst he
  exact ⟨_, rfl, post_of_below (pv := []) hW' (fun _ _ _ => trodAll_cons_mk (shut_bool Try.underlying4 _) trodAll_mk0)
    (fun sp hs => trodAll_cons_mk (trod_keeps (t := 24) (by kernel_rfl) (by kernel_rfl) (by kernel_rfl) k0 hg (fun x hx => hW'.lt x (by simp_all)) (fun x hx => hs x (by simp_all))) (trodAll_mk0))
    (fun _ _ => rfl) (by simp) hg (ok_one (by kernel_rfl) rfl (okWide_bool_mk Try.underlying4 _))⟩

theorem reads (os : Os) {H : Type} (enc : TypeId × Value → H) : ∃ places, DataW.whole enc Try.prog ((World.holding Try.prog os ⟨#[], #[], []⟩).forCall (fun _ _ => 0) ⟨#[], #[.slice none 0 0], []⟩).memory Try.f6.params.toList Rows.fnExactBranchCoverSpec.vars false (#[.slice none 0 0] : Array Value).toList 8 = some ([.nil], [], places) :=
  ⟨[], by kernel_rfl⟩

set_option maxRecDepth 100000 in
theorem lifted (os : Os) (started : os.Started) (H : Type) (enc : TypeId × Value → H) (F : Stop.Interp) :
    ReturnsInHanded {} Try.checked os 6 .any ((OpenSpec.ofChange Rows.fnExactBranchCoverSpec).preRow enc Try.prog Try.f6 Rows.fnExactBranchCoverRow.domain false Rows.fnExactBranchCoverRow.laid) (((OpenSpec.ofChange Rows.fnExactBranchCoverSpec).at F).post enc Try.prog Try.f6 false true false false) := by
  obtain ⟨places, hx⟩ := reads os enc
  refine returnsInHanded_of_row (C := Try.checked) (s := OpenSpec.ofChange Rows.fnExactBranchCoverSpec) Low.own started (by kernel_rfl) Try.func6
    (witness_row_at (enc := enc) (C := Try.checked) false (World.holding Try.prog os ⟨#[], #[], []⟩) #[.slice none 0 0] rfl (by kernel_rfl) (by kernel_rfl) (by kernel_rfl)
      (OpenSpec.preRow_of_cond 8 hx (by kernel_rfl) (fun k hk => by cases hk) (by kernel_rfl) (laidMet_nil _ _))) ?_
  intro W base args ds gs before hval hW _ _ _ hL hShaped _
  exact contract H enc W base args ds gs before hval hW 

theorem said : Rows.FnExactBranchCoverSaid :=
  OpenClaim.holds_of_cond 6 Try.f6 rfl rfl rfl rfl rfl rfl rfl ⟨rfl, rfl, rfl, rfl, rfl⟩ rfl rfl rfl rfl rfl (by kernel_rfl) Try.func6 (by kernel_rfl)
    (of_decide_eq_true (by kernel_rfl)) (by unfold Func.isWrapper; first | (rw [if_pos (by decide +kernel)]; kernel_rfl) | (rw [if_neg (by decide +kernel)]; exact ⟨rfl, rfl⟩))
    (fun os started H enc _ F => by rw [OpenClaim.pre_eq_preRow]; exact lifted os started H enc F)
end Go.Proofs.Ytpebgompfgkljaa.fnExactBranchCover
