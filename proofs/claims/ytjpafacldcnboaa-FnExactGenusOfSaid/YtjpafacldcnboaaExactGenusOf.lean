/-
  At every argument the program's GenusOf returns what the model returns, writes into no argument, and its answer owns its memory.
-/
import Derived.Test.YtjpafacldcnboaaBase
import Derived.Test.YtjpafacldcnboaaLow
import Derived.Test.YtjpafacldcnboaaSlice
import Derived.Test.YtjpafacldcnboaaIntRow
import Derived.Test.YtjpafacldcnboaaInts
import Derived.Test.YtjpafacldcnboaaOwn
import Derived.Test.YtjpafacldcnboaaGrid
import Derived.Test.YtjpafacldcnboaaGridWalk
import Derived.Test.YtjpafacldcnboaaGridWalk2
import Derived.Test.YtjpafacldcnboaaGridMark
import Derived.Test.YtjpafacldcnboaaAppend
import Derived.Test.YtjpafacldcnboaaGridRows
import Derived.Test.YtjpafacldcnboaaIsWord
import Derived.Test.YtjpafacldcnboaaClass
import Derived.Test.YtjpafacldcnboaaLab
import Derived.Test.YtjpafacldcnboaaMap
import Derived.Test.YtjpafacldcnboaaMapA
import Derived.Test.YtjpafacldcnboaaMapB
import Derived.Test.YtjpafacldcnboaaMapC
import Derived.Test.YtjpafacldcnboaaMapD
import Derived.Test.YtjpafacldcnboaaMapE
import Derived.Test.YtjpafacldcnboaaMapF
import Derived.Test.YtjpafacldcnboaaReadInts
import Derived.Deep.DeepWitnessRowRef
import Derived.OpenShut
import Derived.Deep.DeepHandedRow
import Derived.LaidMore
namespace Go.Proofs.Ytjpafacldcnboaa.fnExactGenusOf
open Go.ChangeShapes Go.WideShapes Go.ChangeAt Go.RowKit Go.Sort
open Go.ChangeMaps (open_string)

set_option maxRecDepth 10000 in
set_option maxHeartbeats 2000000 in
theorem law (aM : Option Addr) (cM : Nat) (lM : List Int) (w : World) (hhM : RowAt w aM (intCells lM) ∧ lM.length ≤ maxLen ∧ I64s lM) :
    Calls Try.prog 9 #[.slice aM lM.length cM] w fun e w' => e = .returned (.bool true) ∧ Below w.heap.size w w' := by
  have hB0 := Below.refl w.heap.size w
  obtain ⟨hAM, hMM, hIM⟩ := hhM
  have hAM := Lib.hid hAM
  have hIM := Lib.hid hIM
  unfold maxLen at hMM
  by_cases hlM : lM.length ≤ 1048576
  · skip
    have hLM := Lib.hid hlM
    have c_spec := fun (aaM : Option Addr) (ccM : Nat) (W : World) (hrM : RowAt W aaM (intCells lM)) => spec_GenusOf aaM ccM lM W hrM hLM.out
    have c_impl := fun (aaM : Option Addr) (ccM : Nat) (W : World) (hrM : RowAt W aaM (intCells lM)) => impl_GenusOf aaM ccM lM W hrM hLM.out
    have Hs := Lib.hid c_spec; have Hi := Lib.hid c_impl; clear c_spec c_impl
    go_enter Try.func9, Try.ntmps9
    have h2 := Lib.hid (show w.heap.size ≤ w.heap.size from Nat.le_refl _)
    go_wp2_with fail
    refine (toIntS aM cM lM w (hAM.out.below hB0) hLM.out).mono ?_
    rintro e w1 ⟨rfl, h3, h4⟩
    have h5 := Lib.hid (RowIn.of_blk (lo := w.heap.size) (hi := w1.heap.size) h3 (Nat.le_refl _) h3.lt); clear h3
    have h6 := Lib.hid (h4.size)
    have hB7 : Below w.heap.size w w1 := hB0.trans (h4.mono hB0.size)
    clear h4
    go_wp2_with fail
    refine (Hs.out (some ⟨w.heap.size, 0, none⟩) lM.length w1 h5.out.row).mono ?_
    rintro e w2 ⟨rfl, h8⟩
    have h9 := Lib.hid (h8.size)
    have hB10 : Below w.heap.size w w2 := hB7.trans (h8.mono hB7.size)
    have h11 := Lib.hid (h5.out.below h8); clear h5
    clear h8
    clear h11
    go_wp2_with fail
    refine (toIntS aM cM lM w2 (hAM.out.below hB10) hLM.out).mono ?_
    rintro e w3 ⟨rfl, h12, h13⟩
    have h14 := Lib.hid (RowIn.of_blk (lo := w2.heap.size) (hi := w3.heap.size) h12 (Nat.le_refl _) h12.lt); clear h12
    have h15 := Lib.hid (h13.size)
    have hB16 : Below w.heap.size w w3 := hB10.trans (h13.mono hB10.size)
    clear h13
    go_wp2_with fail
    refine (Hi.out (some ⟨w2.heap.size, 0, none⟩) lM.length w3 h14.out.row).mono ?_
    rintro e w4 ⟨rfl, h17⟩
    have h18 := Lib.hid (h17.size)
    have hB19 : Below w.heap.size w w4 := hB16.trans (h17.mono hB16.size)
    have h20 := Lib.hid (h14.out.below h17); clear h14
    clear h17
    go_wp2_with fail
    refine (toIntS aM cM lM w4 (hAM.out.below hB19) hLM.out).mono ?_
    rintro e w5 ⟨rfl, h22, h23⟩
    have h24 := Lib.hid (RowIn.of_blk (lo := w4.heap.size) (hi := w5.heap.size) h22 (Nat.le_refl _) h22.lt); clear h22
    have h25 := Lib.hid (h23.size)
    have hB26 : Below w.heap.size w w5 := hB19.trans (h23.mono hB19.size)
    have h27 := Lib.hid (h20.out.below h23); clear h20
    clear h23
    go_wp2_with fail
    refine (eqIntS (some ⟨w2.heap.size, 0, none⟩) (some ⟨w4.heap.size, 0, none⟩) lM.length lM.length lM w5 h27.out.row h24.out.row (Nat.le_trans hLM.out (by decide))).mono ?_
    rintro e w6 ⟨rfl, h28⟩
    have h29 := Lib.hid (h28.size)
    have hB30 : Below w.heap.size w w6 := hB26.trans (h28.mono hB26.size)
    have h31 := Lib.hid (h27.out.below h28); clear h27
    have h32 := Lib.hid (h24.out.below h28); clear h24
    clear h28
    clear h32
    go_wp2
    go_ret
    exact ⟨rfl, hB30⟩
  · have hbig : 1048576 < lM.length := by omega
    go_enter Try.func9, Try.ntmps9
    go_wp2
    go_ret
    exact ⟨rfl, Below.refl _ _⟩

set_option maxRecDepth 100000 in
theorem contract (H : Type) (enc : TypeId × Value → H) (W : World) (base : Nat) (args : Array Value) (ds gs : List (DataW H)) (before : List MemPlace)
    (hval : ∀ (j : Nat) t v, Try.f9.params[j]? = some t → args[j]? = some v → Value.okWide Try.prog W .any base t v)
    (hW : DataW.Whole enc Try.prog Try.f9.params.toList Rows.fnExactGenusOfSpec.vars false W args.toList ds gs before) :
    Calls Try.prog 9 args W fun e W' => ∃ v, e = .returned v ∧ Rows.fnExactGenusOfSpec.post enc Try.prog Try.f9 false true false false W args v W' := by
  have hW' := hW
  obtain ⟨p, q, hA0, hV, rfl, hfz, hnd⟩ := hW
  have hA : DataW.TrodAll enc Try.prog W 0 (fun _ => true) true Try.f9.params.toList args.toList ds p := hA0
  rw [Try.params9] at hA hval
  obtain ⟨v0, vs0, d0, ds0, p0, q0, hargs, rfl, rfl, h0, r0⟩ := trodAll_cons hA
  obtain ⟨rfl, rfl, rfl⟩ := trodAll_nil r0
  obtain rfl : args = #[v0] := by cases args; simp_all
  obtain ⟨rfl, rfl⟩ := trodVars_none hV
  have k0 := h0
  obtain ⟨aM, cM, lM, rfl, wM⟩ := Read.ints_of (hval 0 22 v0 rfl rfl) h0
  clear hA0
  simp only [List.append_nil] at hW'
  refine (law aM cM lM W wM).mono fun e W' ⟨he, hg⟩ => ?_
  subst he
  exact ⟨_, rfl, post_of_below (pv := []) hW' (fun _ _ _ => trodAll_cons_mk (shut_bool Try.underlying4 _) trodAll_mk0)
    (fun sp hs => trodAll_cons_mk (trod_keeps (t := 22) (by kernel_rfl) (by kernel_rfl) (by kernel_rfl) k0 hg (fun x hx => hW'.lt x (by simp_all)) (fun x hx => hs x (by simp_all))) (trodAll_mk0))
    (fun _ _ => rfl) (by simp) hg (ok_one (by kernel_rfl) rfl (okWide_bool_mk Try.underlying4 _))⟩

theorem reads (os : Os) {H : Type} (enc : TypeId × Value → H) : ∃ places, DataW.whole enc Try.prog ((World.holding Try.prog os ⟨#[], #[], []⟩).forCall (fun _ _ => 0) ⟨#[], #[.slice none 0 0], []⟩).memory Try.f9.params.toList Rows.fnExactGenusOfSpec.vars false (#[.slice none 0 0] : Array Value).toList 8 = some ([.nil], [], places) :=
  ⟨[], by kernel_rfl⟩

set_option maxRecDepth 100000 in
theorem lifted (os : Os) (started : os.Started) (H : Type) (enc : TypeId × Value → H) (F : Stop.Interp) :
    ReturnsInHanded {} Try.checked os 9 .any ((OpenSpec.ofChange Rows.fnExactGenusOfSpec).preRow enc Try.prog Try.f9 Rows.fnExactGenusOfRow.domain false Rows.fnExactGenusOfRow.laid) (((OpenSpec.ofChange Rows.fnExactGenusOfSpec).at F).post enc Try.prog Try.f9 false true false false) := by
  obtain ⟨places, hx⟩ := reads os enc
  refine returnsInHanded_of_row (C := Try.checked) (s := OpenSpec.ofChange Rows.fnExactGenusOfSpec) Low.own started (by kernel_rfl) Try.func9
    (witness_row_at (enc := enc) (C := Try.checked) false (World.holding Try.prog os ⟨#[], #[], []⟩) #[.slice none 0 0] rfl (by kernel_rfl) (by kernel_rfl) (by kernel_rfl)
      (OpenSpec.preRow_of_cond 8 hx (by kernel_rfl) (fun k hk => by cases hk) (by kernel_rfl) (laidMet_nil _ _))) ?_
  intro W base args ds gs before hval hW _ _ _ hL hShaped _
  exact contract H enc W base args ds gs before hval hW 

theorem said : Rows.FnExactGenusOfSaid :=
  OpenClaim.holds_of_cond 9 Try.f9 rfl rfl rfl rfl rfl rfl rfl ⟨rfl, rfl, rfl, rfl, rfl⟩ rfl rfl rfl rfl rfl (by kernel_rfl) Try.func9 (by kernel_rfl)
    (of_decide_eq_true (by kernel_rfl)) (by unfold Func.isWrapper; first | (rw [if_pos (by decide +kernel)]; kernel_rfl) | (rw [if_neg (by decide +kernel)]; exact ⟨rfl, rfl⟩))
    (fun os started H enc _ F => by rw [OpenClaim.pre_eq_preRow]; exact lifted os started H enc F)
end Go.Proofs.Ytjpafacldcnboaa.fnExactGenusOf
